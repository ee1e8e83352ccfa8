package tree_test

import (
	"reflect"
	"testing"

	"consistory/api"
	"consistory/tree"
)

// everything tells a statement that may not be: with all that there is, at once.
func everything() api.Stmt {
	var x api.Stmt
	to := reflect.ValueOf(&x).Elem()
	for _, from := range full() {
		v := reflect.ValueOf(from)
		for i := range v.NumField() {
			if !v.Field(i).IsZero() {
				to.Field(i).Set(v.Field(i))
			}
		}
	}
	x.Table.Keys[1].Name, x.Table.Keys[1].Cols = "k", []int{1, 0}
	return x
}

// tell sets what resolve tells in all expressions of x.
func tell(x *api.Stmt) int {
	n := 0
	for _, s := range spots(x) {
		if s.isTold() {
			n++
			s.v.SetInt(int64(n))
		}
	}
	return n
}

func TestBare(t *testing.T) {
	for _, x := range append(full(), everything(), api.Stmt{}) {
		if b := tree.Bare(x); !equal(b, x) {
			t.Errorf("P9.5: Bare: %+v of %+v", b, x)
		}
		told := deepCopy(x)
		n := tell(&told)
		if b := tree.Bare(told); !equal(b, x) {
			t.Errorf("P9.5: Bare: %+v of %+v", b, told)
		}
		if !tree.Same(x, told) || !tree.Same(told, x) || n < 2 {
			t.Errorf("P9.5: Same: not, but for what is told: %+v", told)
		}
		holds(t, "P9.2: what resolve told", told, false)
	}
	if n := tell(new(api.Stmt)); n != 4 {
		t.Errorf("%d are told in nothing", n)
	}
}

// TestBareOneByOne: what is told of a single expression goes, at each place.
func TestBareOneByOne(t *testing.T) {
	x := everything()
	n := 0
	for k, s := range spots(&x) {
		if !s.isTold() {
			continue
		}
		other := everything()
		spots(&other)[k].v.SetInt(-7)
		if b := tree.Bare(other); !equal(b, x) || !tree.Same(x, other) || !tree.Same(other, x) {
			t.Errorf("P9.5: %s", s.path)
		}
		n++
	}
	if n < 50 {
		t.Errorf("only %d are told", n)
	}
}

// TestSame: each place of a statement changed but those that resolve tells; each list longer and shorter.
func TestSame(t *testing.T) {
	x := everything()
	differs := func(path string, other api.Stmt, same bool) {
		t.Helper()
		if tree.Same(x, other) != same || tree.Same(other, x) != same {
			t.Errorf("P9.5: Same: not %v: %s", same, path)
		}
		if b := tree.Bare(other); !same && !equal(b, other) || !tree.Same(b, other) {
			t.Errorf("P9.5: Bare: %s", path)
		}
	}
	differs("nothing", everything(), true)
	for k, s := range spots(&x) {
		other := everything()
		v := spots(&other)[k].v
		switch v.Kind() {
		case reflect.Int, reflect.Int64:
			v.SetInt(v.Int() + 1)
		case reflect.Bool:
			v.SetBool(!v.Bool())
		case reflect.String:
			v.SetString(v.String() + "x")
		case reflect.Slice:
			empty := v.Len() == 0
			if !empty {
				v.Set(v.Slice(0, v.Len()-1))
				differs(s.path+" shorter", other, false)
				v.Set(v.Slice(0, v.Len()+1))
			}
			v.Set(reflect.Append(v, reflect.New(v.Type().Elem()).Elem()))
			differs(s.path+" longer", other, false)
			if empty {
				v.Set(v.Slice(0, 0))
				differs(s.path+" empty, not nil", other, true)
			}
			continue
		default:
			continue
		}
		differs(s.path, other, s.isTold())
	}
}

func TestSameOfUnlikeKinds(t *testing.T) {
	l := append(full(), everything(), api.Stmt{})
	for i, a := range l {
		for k, b := range l {
			if tree.Same(a, b) != (i == k) {
				t.Errorf("P9.5: Same: %d, %d", i, k)
			}
		}
	}
}

func TestSameByChance(t *testing.T) {
	c := byChance(95)
	unlike := 0
	for range 5000 {
		x := c.stmt(c(3))
		other := deepCopy(x)
		c.spoil(&other)
		want := equal(tree.Bare(x), tree.Bare(other))
		if tree.Same(x, other) != want || tree.Same(other, x) != want {
			t.Fatalf("P9.5: Same: not %v: %+v, %+v", want, x, other)
		}
		if !want {
			unlike++
		}
	}
	if unlike < 1000 {
		t.Errorf("only %d unlike", unlike)
	}
}
