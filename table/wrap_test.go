package table_test

import (
	"errors"
	"testing"
	"unsafe"

	"consistory/api"
	"consistory/table"
)

// wrapped tells the names an error is wrapped with, from outside, and its class.
func wrapped(err error) string {
	var w *api.Within
	if !errors.As(err, &w) {
		return err.Error()
	}
	return w.Part + ": " + wrapped(w.Err)
}

func wantWrapped(t *testing.T, err error, want string) {
	t.Helper()
	if err == nil || wrapped(err) != want || err.Error() != want {
		t.Errorf("%v, want %s", err, want)
	}
}

// TestConstraintsTellTheirNames: the table, and the key or the column.
func TestConstraintsTellTheirNames(t *testing.T) {
	x := rich(t)
	wantWrapped(t, x.Write(0, nil, nil, made(vals(num(1), null, truth(true)))), "t: PRIMARY KEY (a): class 5")
	wantWrapped(t, x.Write(0, nil, nil, made(vals(num(9), text("x"), truth(true)))), "t: UNIQUE (b): class 5")
	wantWrapped(t, x.Write(1, rows(row(8, num(1), text("a"))), nil, nil), "u: UNIQUE (y, x): class 5")
	wantWrapped(t, x.Write(0, rows(row(2, num(2), null, null)), nil, nil), "t: c: class 5")
	wantWrapped(t, x.Define(statement(t, "CREATE UNIQUE INDEX l ON u (y)")), "u: l: class 5")
	y := store(t, "CREATE TABLE w (a INT, b INT)", "CREATE UNIQUE INDEX m ON w (b, a)")
	wantWrapped(t, y.Write(0, nil, nil, many(2, vals(num(1), num(1)))), "w: m: class 5")
	z, err := table.Of(y.Schema(), api.Data{Rows: make([][]api.Row, 1), Next: ids(1 << 62)})
	if err != nil {
		t.Fatal(err)
	}
	wantWrapped(t, z.Write(0, nil, nil, made(vals(null, null))), "w: class 5")
}

func TestOtherErrorsTellTheirNames(t *testing.T) {
	x := rich(t)
	wantWrapped(t, x.Write(7, nil, nil, nil), "table 7: class 40")
	wantWrapped(t, x.Write(0, nil, ids(4), nil), "t: row 4: class 40")
	wantWrapped(t, x.Write(0, rows(row(2, num(2), null, num(3))), nil, nil), "t: row 2: c: class 20")
	wantWrapped(t, x.Write(0, nil, nil, made(vals(num(2)))), "t: row 6: class 20")
	wantWrapped(t, x.Write(2, nil, nil, many(60, vals(null))), "v: class 2")
	wantWrapped(t, x.Define(statement(t, "DROP TABLE w")), "w: class 3")
	_, err := x.Rows(-1, api.Way{})
	wantWrapped(t, err, "table -1: class 40")
	_, err = x.Rows(1, api.Way{Key: 2})
	wantWrapped(t, err, "u: way: class 20")
}

// TestNoDataTellsItsNames: by those that a write would tell, but as ErrForm.
func TestNoDataTellsItsNames(t *testing.T) {
	for want, change := range map[string]func(s *api.Schema, d *api.Data){
		"schema: class 20":                    func(s *api.Schema, d *api.Data) { s.Tables[0].Name = "" },
		"data: class 20":                      func(s *api.Schema, d *api.Data) { d.Next = nil },
		"u: class 20":                         func(s *api.Schema, d *api.Data) { d.Next[1] = 0 },
		"v: class 20":                         func(s *api.Schema, d *api.Data) { d.Rows[2] = make([]api.Row, 61) },
		"t: row 0: class 20":                  func(s *api.Schema, d *api.Data) { d.Rows[0][1].Id = 0 },
		"t: row 2: b: class 20":               func(s *api.Schema, d *api.Data) { d.Rows[0][1].Vals[1] = num(1) },
		"t: row 2: c: class 20":               func(s *api.Schema, d *api.Data) { d.Rows[0][1].Vals[2] = null },
		"t: row 3: PRIMARY KEY (a): class 20": func(s *api.Schema, d *api.Data) { d.Rows[0][2].Vals[0] = num(2) },
		"u: row 8: UNIQUE (y, x): class 20":   func(s *api.Schema, d *api.Data) { d.Rows[1][7].Vals[0] = num(1) },
		"u: row 5: class 20":                  func(s *api.Schema, d *api.Data) { d.Rows[1][4].Vals = nil },
	} {
		s, d := rich(t).Schema(), rich(t).Data()
		change(&s, &d)
		x, err := table.Of(s, d)
		if x != nil || class(t, err) != api.ErrForm {
			t.Errorf("P12.1: %v, %v, want %s", x, err, want)
		}
		wantWrapped(t, err, want)
	}
}

// TestErrorsKeepNothing: the name that is told isn't the one that was handed in.
func TestErrorsKeepNothing(t *testing.T) {
	s := statement(t, "CREATE UNIQUE INDEX l ON u (y)")
	err := rich(t).Define(s)
	var w *api.Within
	if !errors.As(err, &w) || w.Part != "u" || unsafe.StringData(w.Part) == unsafe.StringData(s.Name) {
		t.Errorf("rule 3: %v", err)
	}
}
