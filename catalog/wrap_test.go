package catalog_test

import (
	"errors"
	"testing"
	"unsafe"

	"consistory/api"
	"consistory/catalog"
)

// wrapped tells the names an error is wrapped with, from outside, and its class.
func wrapped(err error) string {
	var w *api.Within
	if !errors.As(err, &w) {
		return err.Error()
	}
	return w.Part + ": " + wrapped(w.Err)
}

// TestErrorsTellTheName: that which is wrong, within its table.
func TestErrorsTellTheName(t *testing.T) {
	for sql, want := range map[string]string{
		"CREATE TABLE u (a INT)":                                "u: class 3",
		"CREATE TABLE i (a INT)":                                "i: class 3",
		"CREATE TABLE w (a INT, b INT, b INT)":                  "w: b: class 3",
		"CREATE TABLE w (a INT, UNIQUE (a, c))":                 "w: c: class 3",
		"CREATE TABLE w (a INT, b INT, UNIQUE (b, a, b))":       "w: b: class 3",
		"CREATE TABLE w (a INT PRIMARY KEY, PRIMARY KEY (a))":   "w: class 3",
		"CREATE TABLE w (" + row(7, "c@ INT") + ")":             "w: c6: class 2",
		"CREATE TABLE w (a INT, " + row(5, "UNIQUE (a)") + ")":  "w: class 2",
		"CREATE TABLE w (" + row(7, "c@ INT") + ", UNIQUE (d))": "w: d: class 3",
		"CREATE INDEX l ON w (a)":                               "w: class 3",
		"CREATE INDEX k ON u (x)":                               "k: class 3",
		"CREATE INDEX l ON u (x, z)":                            "u: z: class 3",
		"CREATE INDEX l ON u (x, x)":                            "u: l: x: class 3",
		"CREATE INDEX l ON t (a)":                               "t: l: class 2",
		"DROP TABLE w":                                          "w: class 3",
		"DROP INDEX t":                                          "t: class 3",
		"SELECT a FROM t":                                       "statement: class 20",
	} {
		_, err := catalog.Apply(rich(t), statement(t, sql))
		if err == nil || wrapped(err) != want || err.Error() != want {
			t.Errorf("%s: %v, want %s", sql, err, want)
		}
	}
	full := limits()
	if _, err := catalog.Apply(full, statement(t, "CREATE TABLE w (a INT)")); err == nil || err.Error() != "w: class 2" {
		t.Errorf("%v", err)
	}
}

// TestErrorsTellWhatIsNoSchema: by its names, too, but as ErrForm.
func TestErrorsTellWhatIsNoSchema(t *testing.T) {
	for want, change := range map[string]func(s *api.Schema){
		"T: class 20":       func(s *api.Schema) { s.Tables[1].Name = "T" },
		"t: class 20":       func(s *api.Schema) { s.Tables[2].Name = "t" },
		"u: class 20":       func(s *api.Schema) { s.Tables[1].Cols = nil },
		"class 20":          func(s *api.Schema) { s.Tables[0].Name = "" },
		"t: b: class 20":    func(s *api.Schema) { s.Tables[0].Cols[1].Type = 7 },
		"t: a: class 20":    func(s *api.Schema) { s.Tables[0].Cols[0].NotNull = false },
		"t: i: class 20":    func(s *api.Schema) { s.Tables[0].Keys[2].Cols[0] = 3 },
		"t: i: a: class 20": func(s *api.Schema) { s.Tables[0].Keys[2].Cols[0] = 0 },
		"u: k: class 20":    func(s *api.Schema) { s.Tables[1].Keys[2].Cols = nil },
		"x: a: class 20": func(s *api.Schema) {
			s.Tables[2] = api.Table{Name: "x", Cols: many(7, api.Column{Name: "a", Type: api.Int})}
		},
		"x: class 20": func(s *api.Schema) { s.Tables = append(limits().Tables, api.Table{Name: "x"}) },
	} {
		s := rich(t)
		change(&s)
		_, err := catalog.Apply(s, statement(t, "DROP TABLE v"))
		if class(t, err) != api.ErrForm || wrapped(err) != want {
			t.Errorf("%v, want %s", err, want)
		}
	}
}

// TestErrorsKeepNothing: the name that is told isn't the one that was handed in.
func TestErrorsKeepNothing(t *testing.T) {
	x := statement(t, "DROP TABLE nowhere")
	_, err := catalog.Apply(api.Schema{}, x)
	var w *api.Within
	if !errors.As(err, &w) || unsafe.StringData(w.Part) == unsafe.StringData(x.Name) {
		t.Errorf("rule 3: %v", err)
	}
}
