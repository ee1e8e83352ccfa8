package tree

import (
	"consistory/api"
	"consistory/value"
)

// expr writes one that may be.
func (w *writer) expr(e *api.Expr) {
	switch e.Kind {
	case api.EValue:
		w.put(value.Print(e.Value))
	case api.ECol:
		if e.Table != "" {
			w.put(e.Table, ".")
		}
		w.put(e.Name)
	case api.EUnary:
		w.unary(e.Op, &e.Args[0])
	case api.EBinary:
		w.argument(e.Op, &e.Args[0])
		w.put(" ", sign(e.Op), " ")
		w.argument(e.Op, &e.Args[1])
	case api.EIn:
		w.argument(e.Op, &e.Args[0])
		w.put(" IN ")
		w.bracketed(e.Args[1:])
	case api.ECase:
		w.cases(e.Args)
	case api.EAgg:
		w.aggregate(e)
	}
}

func (w *writer) unary(op int, e *api.Expr) {
	switch op {
	case api.ONeg:
		w.begin("- ")
		w.argument(op, e)
		w.end("")
	case api.ONot:
		w.begin("NOT ")
		w.argument(op, e)
		w.end("")
	case api.OIsNull:
		w.argument(op, e)
		w.put(" IS NULL")
	case api.ONotNull:
		w.argument(op, e)
		w.put(" IS NOT NULL")
	}
}

// argument writes one that an operator stands beside: in brackets, if it could be read as another thing without them.
func (w *writer) argument(op int, e *api.Expr) {
	if !isLoose(op, e) {
		w.expr(e)
		return
	}
	w.begin("(")
	w.expr(e)
	w.end(")")
}

func isLoose(op int, e *api.Expr) bool {
	switch e.Kind {
	case api.EUnary, api.EBinary, api.EIn:
		return true
	case api.EValue: // a minus ahead of an integer would be read as its own
		return e.Value.Kind == api.Int && (e.Value.Int < 0 || op == api.ONeg)
	}
	return false
}

// sign tells how an operator of two is written.
func sign(op int) string {
	return [...]string{
		api.OEq: "=", api.ONe: "<>", api.OLt: "<", api.OLe: "<=", api.OGt: ">", api.OGe: ">=",
		api.OAdd: "+", api.OSub: "-", api.OMul: "*", api.ODiv: "/", api.OMod: "%", api.OCat: "||",
		api.OAnd: "AND", api.OOr: "OR",
	}[op]
}

func (w *writer) bracketed(l []api.Expr) {
	w.begin("(")
	list(w, l, w.expr)
	w.end(")")
}

// cases: one that is left over behind the pairs is for else.
func (w *writer) cases(l []api.Expr) {
	w.begin("CASE")
	for ; len(l) > 1; l = l[2:] {
		w.put(" WHEN ")
		w.expr(&l[0])
		w.put(" THEN ")
		w.expr(&l[1])
	}
	if len(l) > 0 {
		w.put(" ELSE ")
		w.expr(&l[0])
	}
	w.end(" END")
}

func (w *writer) aggregate(e *api.Expr) {
	switch e.Op {
	case api.ACount:
		w.put("COUNT")
	case api.ASum:
		w.put("SUM")
	case api.AMin:
		w.put("MIN")
	case api.AMax:
		w.put("MAX")
	}
	if len(e.Args) > 0 {
		w.bracketed(e.Args)
		return
	}
	w.begin("(")
	w.end("*)")
}
