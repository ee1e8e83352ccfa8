package parse

import (
	"errors"

	"consistory/api"
)

// reader: the tokens that are left of a statement, its end at least, and the first fault in it. Behind a fault nothing but the end is left: whoever reads on soon has nothing to read, so that nobody needs to ask.
type reader struct {
	left  []api.Token
	err   error
	open  int // brackets and all else that nests, where the next token stands
	parts int // expressions so far, however deep, those at two places twice
}

// now tells the token that comes next.
func (r *reader) now() api.Token { return r.left[0] }

// pass goes on behind the next token, which isn't the end.
func (r *reader) pass() { r.left = r.left[1:] }

// mark tells the word or the sign that comes next; nothing, if it is another token: a text may say the same as a sign.
func (r *reader) mark() string {
	switch t := r.now(); t.Kind {
	case api.TokWord, api.TokSign:
		return t.Text
	}
	return ""
}

// take goes on behind a word or a sign, if it comes next, and tells whether.
func (r *reader) take(mark string) bool {
	if r.mark() != mark {
		return false
	}
	r.pass()
	return true
}

// must goes on behind a word or a sign that has to come next.
func (r *reader) must(mark string) {
	if !r.take(mark) {
		r.fail(api.ErrSyntax)
	}
}

// fail tells a fault at the next token, if it is the first one.
func (r *reader) fail(class api.Class) {
	if r.err == nil {
		r.tell(r.now().At, class)
	}
}

func (r *reader) tell(at int, class api.Class) {
	r.err = &api.Placed{At: at, Err: class}
	r.left = r.left[len(r.left)-1:]
}

func (r *reader) name() string {
	t := r.now()
	switch {
	case t.Kind != api.TokName:
		r.fail(api.ErrSyntax)
		return ""
	case len(t.Text) > api.MaxName:
		r.fail(api.ErrLimit)
		return ""
	}
	r.pass()
	return t.Text
}

// names reads some in brackets.
func (r *reader) names() []string {
	var l []string
	r.brackets(func() { l = list(r, r.name) })
	return l
}

// nested reads what the next token opens, by inside.
func (r *reader) nested(inside func()) {
	if r.open == api.MaxDepth {
		r.fail(api.ErrLimit)
		return
	}
	r.pass()
	r.open++
	inside()
	r.open--
}

// brackets reads two of them and, by inside, what stands between.
func (r *reader) brackets(inside func()) {
	if r.mark() != "(" {
		r.fail(api.ErrSyntax)
		return
	}
	r.nested(inside)
	r.must(")")
}

// list reads elements with commas between, each by one.
func list[T any](r *reader, one func() T) []T {
	var l []T
	for more := true; more; more = r.take(",") {
		r.element(len(l), api.MaxItems, func() { l = append(l, one()) })
	}
	return l
}

// element reads one more, where so many stand ahead of it. That which is too many is read as the others are: so it shows whether its first token can be there at all, which is told ahead.
func (r *reader) element(ahead, most int, one func()) {
	if r.err != nil { // of a token ahead of it: that one is told
		return
	}
	at := r.now().At
	one()
	if ahead >= most && !isStranger(r.err, at) {
		r.tell(at, api.ErrLimit)
	}
}

// isStranger: whether err says that the token there can't be.
func isStranger(err error, at int) bool {
	var p *api.Placed
	return errors.Is(err, api.ErrSyntax) && errors.As(err, &p) && p.At == at
}
