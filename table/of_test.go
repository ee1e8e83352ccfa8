package table_test

import (
	"math"
	"testing"

	"consistory/api"
	"consistory/table"
)

func TestNew(t *testing.T) {
	for _, x := range []*table.Store{table.New(), {}} {
		s, d := x.Schema(), x.Data()
		if len(s.Tables) != 0 || len(d.Rows) != 0 || len(d.Next) != 0 {
			t.Errorf("P12.1: %v, %v", s, d)
		}
		for _, i := range []int{-1, 0, 1, math.MaxInt, math.MinInt} {
			if x.Count(i) != 0 || tell(t, x, i, api.Way{Key: -1}) != "class 40" || write(t, x, i, nil, nil, nil) != api.ErrPlace {
				t.Errorf("P12.1: there is a table %d", i)
			}
		}
		if c := define(t, x.Clone(), statement(t, "DROP TABLE t")); c != api.ErrName {
			t.Errorf("P12.2: class %d", c)
		}
		if c := define(t, x, statement(t, "CREATE TABLE t (a INT)")); c != 0 || show(x) != "t a INT /1" {
			t.Errorf("P12.2: class %d, %s", c, show(x))
		}
	}
	if got := show(table.New()); got != "" {
		t.Errorf("P12.1: what was done to one store is seen in a new one: %s", got)
	}
}

func TestCount(t *testing.T) {
	x := rich(t)
	for i, want := range map[int]int{0: 4, 1: 8, 2: 2, 3: 0, -1: 0, math.MaxInt: 0, math.MinInt: 0} {
		if got := x.Count(i); got != want {
			t.Errorf("P12.1: Count(%d): %d, want %d", i, got, want)
		}
	}
}

// of tells what Of makes of s and d, as it is shown, or the class.
func of(t *testing.T, s api.Schema, d api.Data) string {
	t.Helper()
	x, err := table.Of(s, d)
	if err != nil {
		if x != nil {
			t.Errorf("rule 4: a store beside %v", err)
		}
		return class(t, err).Error()
	}
	return show(x)
}

func TestOf(t *testing.T) {
	x := rich(t)
	if got := of(t, x.Schema(), x.Data()); got != richShown {
		t.Errorf("P12.1: %s", got)
	}
	if got := of(t, api.Schema{}, api.Data{}); got != "" {
		t.Errorf("P12.1: %s", got)
	}
	if got := of(t, api.Schema{Tables: []api.Table{}}, api.Data{Rows: [][]api.Row{}, Next: []uint64{}}); got != "" {
		t.Errorf("rule 2: %s", got)
	}
	empty := store(t, richTables...)
	if got := of(t, empty.Schema(), api.Data{Rows: [][]api.Row{nil, {}, nil}, Next: ids(1, 1, 1)}); got != show(empty) {
		t.Errorf("P12.1: %s", got)
	}
}

// TestOfGoesOn: a store that Of made is like the one it was made of.
func TestOfGoesOn(t *testing.T) {
	x := rich(t)
	y, err := table.Of(x.Schema(), x.Data())
	if err != nil {
		t.Fatal(err)
	}
	for key, want := range map[int]string{-1: "1 2 3 4 5 6 7 8", 0: "1 2 3 4 5 6 7 8", 1: "1 2 3 4 5 6 7 8"} {
		if got := tell(t, y, 1, api.Way{Key: key}); got != want {
			t.Errorf("P12.1: key %d: %s", key, got)
		}
	}
	if got := tell(t, y, 1, eq(1, num(1))); got != "1 7" {
		t.Errorf("P12.4: %s", got)
	}
	if c := write(t, y, 1, nil, nil, made(vals(num(2), text("b")))); c != api.ErrConstraint {
		t.Errorf("P12.3: class %d", c)
	}
	wantWrite(t, y, 1, nil, ids(6), made(vals(num(2), text("b"))))
	if got := tell(t, y, 1, eq(0, text("b"))); got != "9" || show(x) != richShown {
		t.Errorf("P12.1: %s, %s", got, show(x))
	}
}

func TestOfWantsASchema(t *testing.T) {
	one := api.Data{Rows: [][]api.Row{nil}, Next: ids(1)}
	for i, s := range []api.Schema{
		{Tables: []api.Table{{}}},
		{Tables: []api.Table{{Name: "t"}}},
		{Tables: []api.Table{{Name: "T", Cols: []api.Column{{Name: "a", Type: api.Int}}}}},
		{Tables: []api.Table{{Name: "t", Cols: []api.Column{{Name: "a", Type: api.Null}}}}},
		{Tables: []api.Table{{Name: "t", Cols: []api.Column{{Name: "a", Type: api.Int}}, Keys: []api.Key{{Name: "i", Cols: []int{1}}}}}},
		{Tables: []api.Table{{Name: "t", Cols: []api.Column{{Name: "a", Type: api.Int}}, Keys: []api.Key{{Unique: true, Cols: []int{-1}}}}}},
		{Tables: []api.Table{{Name: "t", Cols: []api.Column{{Name: "a", Type: api.Int}}, Keys: []api.Key{{Cols: []int{0}}}}}},
		{Tables: []api.Table{{Name: "t", Cols: many(7, api.Column{Name: "a", Type: api.Int})}}},
	} {
		if got := of(t, s, one); got != "class 20" {
			t.Errorf("P12.1: row %d: %s", i, got)
		}
	}
	x := rich(t)
	if got := of(t, x.Schema(), api.Data{}); got != "class 20" {
		t.Errorf("P12.1: %s", got)
	}
	if got := of(t, api.Schema{}, x.Data()); got != "class 20" {
		t.Errorf("P12.1: %s", got)
	}
}

// TestOfWantsData: each change of what is data by itself makes it none, or leaves it some.
func TestOfWantsData(t *testing.T) {
	type data = api.Data
	for name, c := range map[string]struct {
		right  bool
		change func(d *data)
	}{
		"a list too few":              {false, func(d *data) { d.Rows = d.Rows[:2] }},
		"a list too many":             {false, func(d *data) { d.Rows = append(d.Rows, nil) }},
		"a Next too few":              {false, func(d *data) { d.Next = d.Next[:2] }},
		"a Next too many":             {false, func(d *data) { d.Next = append(d.Next, 1) }},
		"both too few":                {false, func(d *data) { d.Next, d.Rows = d.Next[:2], d.Rows[:2] }},
		"both too many":               {false, func(d *data) { d.Next, d.Rows = append(d.Next, 1), append(d.Rows, nil) }},
		"no rows, Next 0":             {false, func(d *data) { d.Rows[0], d.Next[0] = nil, 0 }},
		"no rows, Next 1":             {true, func(d *data) { d.Rows[0], d.Next[0] = nil, 1 }},
		"no rows, Next far on":        {true, func(d *data) { d.Rows[0], d.Next[0] = nil, 1<<62 }},
		"Next at the end":             {true, func(d *data) { d.Next[0] = 1 << 62 }},
		"Next past the end":           {false, func(d *data) { d.Next[0] = 1<<62 + 1 }},
		"no rows, Next past the end":  {false, func(d *data) { d.Rows[2], d.Next[2] = nil, 1<<62+1 }},
		"no rows, the greatest Next":  {false, func(d *data) { d.Rows[2], d.Next[2] = nil, math.MaxUint64 }},
		"Next is the last Id":         {false, func(d *data) { d.Next[0] = 5 }},
		"Next far below":              {false, func(d *data) { d.Next[0] = 1 }},
		"Id 0":                        {false, func(d *data) { d.Rows[0][0].Id = 0 }},
		"an Id twice":                 {false, func(d *data) { d.Rows[0][1].Id = 1 }},
		"Ids fall":                    {false, func(d *data) { d.Rows[0][1].Id = 4 }},
		"Ids leave one out":           {true, func(d *data) { d.Rows[0][2].Id = 4 }},
		"the last Id is Next":         {false, func(d *data) { d.Rows[0][3].Id = 6 }},
		"the last Id is the greatest": {false, func(d *data) { d.Rows[0][3].Id = math.MaxUint64 }},
		"an Id just below the end":    {true, func(d *data) { d.Rows[0][3].Id, d.Next[0] = 1<<62-1, 1<<62 }},
		"an Id at the end":            {false, func(d *data) { d.Rows[0][3].Id, d.Next[0] = 1<<62, 1<<62 }},
		"a value too few":             {false, func(d *data) { d.Rows[0][0].Vals = d.Rows[0][0].Vals[:2] }},
		"a value too many":            {false, func(d *data) { d.Rows[0][0].Vals = append(d.Rows[0][0].Vals, null) }},
		"no values":                   {false, func(d *data) { d.Rows[2][0].Vals = nil }},
		"far too many values":         {false, func(d *data) { d.Rows[2][0].Vals = make([]api.Value, 1<<20) }},
		"another Kind":                {false, func(d *data) { d.Rows[0][0].Vals[0] = text("1") }},
		"a truth for an integer":      {false, func(d *data) { d.Rows[0][0].Vals[0] = truth(true) }},
		"an integer for a truth":      {false, func(d *data) { d.Rows[0][0].Vals[2] = num(1) }},
		"a Null":                      {true, func(d *data) { d.Rows[0][0].Vals[1] = null }},
		"a Null in NotNull":           {false, func(d *data) { d.Rows[0][0].Vals[2] = null }},
		"a Null in a Primary key":     {false, func(d *data) { d.Rows[0][0].Vals[0] = null }},
		"a Primary key twice":         {false, func(d *data) { d.Rows[0][0].Vals[0] = num(-4) }},
		"a Unique key twice":          {false, func(d *data) { d.Rows[0][1].Vals[1] = text("x") }},
		"a Unique key of two twice":   {false, func(d *data) { d.Rows[1][7].Vals[0] = num(1) }},
		"one of its two is Null":      {true, func(d *data) { d.Rows[1][7].Vals[0] = null }},
		"the other one is Null":       {true, func(d *data) { d.Rows[1][5].Vals[1] = null }},
		"both are Null":               {true, func(d *data) { d.Rows[1][0].Vals = vals(null, null) }},
		"alike where nothing is said": {true, func(d *data) { d.Rows[2][0].Vals[0] = truth(true) }},
	} {
		d := rich(t).Data()
		c.change(&d)
		if got := of(t, rich(t).Schema(), d); (got != "class 20") != c.right || c.right && got != showAll(rich(t).Schema(), d) {
			t.Errorf("P12.1: %s: %s", name, got)
		}
	}
	for _, v := range wrongValues {
		for col := range 3 {
			d := rich(t).Data()
			d.Rows[0][0].Vals[col] = v
			if got := of(t, rich(t).Schema(), d); got != "class 20" {
				t.Errorf("P12.1: %v in column %d: %s", v, col, got)
			}
		}
	}
}

func TestOfAtMostMaxRows(t *testing.T) {
	s := store(t, "CREATE TABLE t (a INT, b INT)", "CREATE TABLE u (a INT UNIQUE)").Schema()
	for n, right := range map[int]bool{api.MaxRows: true, api.MaxRows + 1: false, 1 << 16: false} {
		d := api.Data{Rows: make([][]api.Row, 2), Next: many(2, uint64(n+1))}
		for i := range n {
			d.Rows[1] = append(d.Rows[1], row(uint64(i+1), num(int64(-i))))
		}
		if got := of(t, s, d); (got != "class 20") != right {
			t.Errorf("P12.1: %d rows: %s", n, got)
		}
	}
}

func TestClone(t *testing.T) {
	x := rich(t)
	y := x.Clone()
	z := y.Clone()
	wantWrite(t, x, 0, rows(row(1, num(9), null, truth(true))), ids(2), made(vals(num(7), text("z"), truth(true))))
	wantWrite(t, z, 1, nil, ids(1, 2), nil)
	if c := define(t, x, statement(t, "DROP INDEX k")); c != 0 {
		t.Fatalf("P12.2: class %d", c)
	}
	if c := define(t, x, statement(t, "DROP TABLE v")); c != 0 {
		t.Fatalf("P12.2: class %d", c)
	}
	if c := define(t, z, statement(t, "CREATE UNIQUE INDEX l ON v (a)")); c != 0 {
		t.Fatalf("P12.2: class %d", c)
	}
	if got := show(y); got != richShown {
		t.Errorf("P12.1: %s", got)
	}
	if got := show(x); got != richT+" 1(9,NULL,TRUE) 3(3,NULL,FALSE) 5(-4,'',TRUE) 6(7,'z',TRUE) /7; u x INT, y TEXT, U(1 0)"+richRowsU {
		t.Errorf("P12.1: %s", got)
	}
	if got := tell(t, y, 1, eq(1, num(1))); got != "1 7" {
		t.Errorf("P12.1: %s", got)
	}
	if got := tell(t, z, 1, eq(1, num(1))); got != "7" {
		t.Errorf("P12.1: %s", got)
	}
	if got := tell(t, z, 2, eq(0, truth(true))); got != "2" {
		t.Errorf("P12.1: %s", got)
	}
	wantWrite(t, y, 0, nil, nil, made(vals(num(7), text("z"), truth(true))))
	if got := tell(t, y, 0, eq(0, num(7))); got != "6" {
		t.Errorf("P12.1: %s", got)
	}
}
