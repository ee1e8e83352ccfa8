package resolve_test

import (
	"testing"

	"consistory/api"
)

func TestSelect(t *testing.T) {
	wantTold(t, map[string]string{
		"SELECT a, b AS x, t.c FROM t":                                                "a@0:I; b@1:T AS x; t.c@2:B",
		"SELECT * FROM t":                                                             "t.a@0:I; t.b@1:T; t.c@2:B",
		"SELECT * FROM t z":                                                           "z.a@0:I; z.b@1:T; z.c@2:B",
		"SELECT z.a, a FROM t z":                                                      "z.a@0:I; a@0:I",
		"SELECT a + 1 FROM t WHERE c LIMIT 3":                                         "(+ a@0:I 1:I):I; WHERE c@2:B",
		"SELECT 1 FROM t WHERE NULL":                                                  "1:I; WHERE NULL:0",
		"SELECT t.a, u.a, x, b FROM t JOIN u ON t.a = u.a":                            "t.a@0:I; u.a@3:I; x@4:T; b@1:T; ON (= t.a@0:I u.a@3:I):B",
		"SELECT *, x || 'q' AS y FROM t JOIN u z ON z.a = t.a":                        "t.a@0:I; t.b@1:T; t.c@2:B; z.a@3:I; z.x@4:T; z.c@5:T; (|| x@4:T 'q':T):T AS y; ON (= z.a@3:I t.a@0:I):B",
		"SELECT z.a FROM t z JOIN t ON z.a = t.a":                                     "z.a@0:I; ON (= z.a@0:I t.a@3:I):B",
		"SELECT a.b FROM t b JOIN t a ON b.c LEFT JOIN t ON NULL":                     "a.b@4:T; ON b.c@2:B; ON NULL:0",
		"SELECT z FROM t JOIN u ON b = x LEFT JOIN v ON y AND t.c ORDER BY z DESC, x": "z@7:I; ON (= b@1:T x@4:T):B; ON (AND y@6:B t.c@2:B):B; BY z@7:I; BY x@4:T",
		"SELECT a, * FROM t ORDER BY 1, NULL, b":                                      "a@0:I; t.a@0:I; t.b@1:T; t.c@2:B; BY 1:I; BY NULL:0; BY b@1:T",
		"SELECT y FROM t JOIN v ON b = 'x'":                                           "y@3:B; ON (= b@1:T 'x':T):B",
		"SELECT t FROM w t":                                                           "t@4:I",
		"SELECT t.t, u.u FROM w t JOIN w u ON t.u = u.t":                              "t.t@4:I; u.u@11:I; ON (= t.u@5:I u.t@10:I):B",
	})
	wantClasses(t, "P13.2", api.ErrName,
		"SELECT a FROM z",
		"SELECT a FROM i",
		"SELECT 'x' + 1 FROM z",
		"SELECT a FROM t JOIN u ON TRUE",
		"SELECT c FROM t JOIN u ON TRUE",
		"SELECT t.a FROM t z",
		"SELECT u.b FROM t JOIN u ON TRUE",
		"SELECT zz FROM t",
		"SELECT t.zz FROM t",
		"SELECT zz.a FROM t",
		"SELECT 1 FROM t JOIN t ON TRUE",
		"SELECT 1 FROM t JOIN u t ON TRUE",
		"SELECT 1 FROM t x JOIN u x ON TRUE",
		"SELECT 1 FROM u JOIN t u ON TRUE",
		"SELECT 1 FROM t JOIN u ON TRUE JOIN v t ON TRUE",
		"SELECT 1 FROM t JOIN u z ON TRUE JOIN v z ON TRUE",
		"SELECT 1 FROM t JOIN zz ON 1",
		"SELECT 1 FROM t JOIN u ON 1 JOIN zz ON TRUE",
		"SELECT 1 FROM t JOIN u ON 1 JOIN t ON TRUE",
		"SELECT 1 FROM t JOIN u ON w.p = 1 JOIN w ON TRUE",
		"SELECT 1 FROM t JOIN u ON p = 1 JOIN w ON TRUE",
		"SELECT 1 FROM t JOIN u ON a = 1",
		"SELECT 1 FROM t JOIN u ON TRUE WHERE a = 1",
		"SELECT 1 FROM t WHERE zz",
		"SELECT 1 FROM t WHERE zz + b",
		"SELECT 1 FROM t ORDER BY zz",
		"SELECT a AS zz FROM t ORDER BY zz",
		"SELECT a AS zz FROM t WHERE zz = 1",
		"SELECT t.p FROM w t JOIN w u ON t.a = 1",
	)
	wantClasses(t, "P13.2", api.ErrType,
		"SELECT a + b FROM t",
		"SELECT a = 'x' FROM t",
		"SELECT 1 FROM t JOIN u ON 1",
		"SELECT 1 FROM t JOIN u ON x",
		"SELECT 1 FROM t JOIN u ON TRUE JOIN v ON z",
		"SELECT 1 FROM t JOIN u ON t.a = x",
		"SELECT 1 FROM t JOIN u ON COUNT(*) = 1",
		"SELECT * FROM t WHERE b",
		"SELECT 1 FROM t WHERE a",
		"SELECT 1 FROM t WHERE COUNT(*) = 1",
		"SELECT COUNT(*) FROM t WHERE MAX(c)",
		"SELECT 1 FROM t ORDER BY a || b",
	)
	wantClasses(t, "P13.2", 0,
		"SELECT 1 FROM t JOIN u ON TRUE JOIN w ON w.p = u.a AND p = t.a",
		"SELECT 1 FROM t JOIN u ON t.a = u.a LEFT JOIN v ON y",
	)
}

// TestTheOnlySource: a name without a table is that of one source of those that are joined so far.
func TestTheOnlySource(t *testing.T) {
	wantTold(t, map[string]string{
		"SELECT 1 FROM t JOIN v ON a = 1 JOIN u ON u.a = z": "1:I; ON (= a@0:I 1:I):B; ON (= u.a@5:I z@4:I):B",
		"SELECT 1 FROM t JOIN v ON c JOIN u ON x = b":       "1:I; ON c@2:B; ON (= x@6:T b@1:T):B",
	})
	wantClasses(t, "P13.2", api.ErrName,
		"SELECT 1 FROM t JOIN v ON a = 1 JOIN u ON a = z",
		"SELECT 1 FROM t JOIN v ON a = 1 JOIN u ON TRUE WHERE a = 1",
		"SELECT 1 FROM t JOIN v ON x = 'x' JOIN u ON TRUE",
		"SELECT 1 FROM t JOIN v ON u.x = 'x' JOIN u ON TRUE",
	)
}

func TestGrouped(t *testing.T) {
	wantTold(t, map[string]string{
		"SELECT MAX(b), COUNT(*), a FROM t GROUP BY a":                       "(MAX b@1:T):T; (COUNT):I; a@0:I; GROUP a@0:I",
		"SELECT a, COUNT(b), SUM(a), MIN(c) FROM t GROUP BY a":               "a@0:I; (COUNT b@1:T):I; (SUM a@0:I):I; (MIN c@2:B):B; GROUP a@0:I",
		"SELECT SUM(NULL), MIN(NULL), COUNT(NULL) FROM t":                    "(SUM NULL:0):I; (MIN NULL:0):0; (COUNT NULL:0):I",
		"SELECT t.a + 1 FROM t GROUP BY a":                                   "(+ t.a@0:I 1:I):I; GROUP a@0:I",
		"SELECT a FROM t z GROUP BY z.a HAVING z.a > 1 ORDER BY a":           "a@0:I; GROUP z.a@0:I; HAVING (> z.a@0:I 1:I):B; BY a@0:I",
		"SELECT 1 FROM t GROUP BY a, t.a, c":                                 "1:I; GROUP a@0:I t.a@0:I c@2:B",
		"SELECT SUM(a + 1) + COUNT(*) FROM t WHERE c":                        "(+ (SUM (+ a@0:I 1:I):I):I (COUNT):I):I; WHERE c@2:B",
		"SELECT 1 FROM t HAVING TRUE":                                        "1:I; HAVING TRUE:B",
		"SELECT 1 FROM t HAVING NULL":                                        "1:I; HAVING NULL:0",
		"SELECT 1 FROM t HAVING MAX(c)":                                      "1:I; HAVING (MAX c@2:B):B",
		"SELECT 1 FROM t ORDER BY COUNT(*)":                                  "1:I; BY (COUNT):I",
		"SELECT c, MAX(a) FROM t GROUP BY c ORDER BY MIN(b) DESC, c":         "c@2:B; (MAX a@0:I):I; GROUP c@2:B; BY (MIN b@1:T):T; BY c@2:B",
		"SELECT u.a, MAX(x) FROM t JOIN u ON t.a = u.a GROUP BY u.a":         "u.a@3:I; (MAX x@4:T):T; ON (= t.a@0:I u.a@3:I):B; GROUP u.a@3:I",
		"SELECT MIN(c) = c FROM t GROUP BY c HAVING SUM(a) > 1 OR c":         "(= (MIN c@2:B):B c@2:B):B; GROUP c@2:B; HAVING (OR (> (SUM a@0:I):I 1:I):B c@2:B):B",
		"SELECT CASE WHEN c THEN COUNT(*) END FROM t GROUP BY c":             "(CASE c@2:B (COUNT):I):I; GROUP c@2:B",
		"SELECT MAX(NULL) || 'x', MIN(NULL) + 1, NOT MIN(NULL) FROM t":       "(|| (MAX NULL:0):0 'x':T):T; (+ (MIN NULL:0):0 1:I):I; (NOT (MIN NULL:0):0):B",
		"SELECT MAX(a IN (1, 2)), SUM(CASE WHEN c THEN 1 ELSE a END) FROM t": "(MAX (IN a@0:I 1:I 2:I):B):B; (SUM (CASE c@2:B 1:I a@0:I):I):I",
	})
	wantClasses(t, "P13.2", api.ErrType,
		"SELECT b FROM t GROUP BY a",
		"SELECT * FROM t GROUP BY a",
		"SELECT * FROM t GROUP BY a, b, c",
		"SELECT *, COUNT(*) FROM t",
		"SELECT * FROM t HAVING TRUE",
		"SELECT * FROM t ORDER BY COUNT(*)",
		"SELECT a + SUM(a) FROM t",
		"SELECT a, SUM(a) FROM t",
		"SELECT a FROM t HAVING TRUE",
		"SELECT 1 FROM t HAVING c",
		"SELECT 1 FROM t HAVING 1",
		"SELECT 1 FROM t HAVING COUNT(*)",
		"SELECT a FROM t ORDER BY COUNT(*)",
		"SELECT 1 FROM t GROUP BY a ORDER BY b",
		"SELECT COUNT(*) FROM t ORDER BY a",
		"SELECT a FROM t GROUP BY a HAVING b = 'x'",
		"SELECT t.a FROM t JOIN u ON TRUE GROUP BY u.a",
		"SELECT SUM(b) FROM t",
		"SELECT SUM(c) FROM t",
		"SELECT SUM(a = 1) FROM t",
		"SELECT MAX(a) || 'x' FROM t",
		"SELECT SUM(COUNT(*)) FROM t",
		"SELECT COUNT(1 + MAX(a)) FROM t GROUP BY a",
		"SELECT 1 FROM t HAVING COUNT(COUNT(a)) = 1",
		"SELECT 1 FROM t ORDER BY MIN(MIN(a))",
		"SELECT a FROM t GROUP BY a + 1",
		"SELECT 1 FROM t GROUP BY 1",
		"SELECT 1 FROM t GROUP BY NULL",
		"SELECT 1 FROM t GROUP BY COUNT(*)",
		"SELECT 1 FROM t GROUP BY - a",
		"SELECT a FROM t GROUP BY zz + 1",
		"SELECT a FROM t GROUP BY COUNT(zz)",
		"SELECT a FROM t GROUP BY a IN (zz)",
		"SELECT 1 FROM t GROUP BY a, zz = 1",
	)
	wantClasses(t, "P13.2", api.ErrName,
		"SELECT a FROM t GROUP BY zz",
		"SELECT 1 FROM t GROUP BY zz.a",
		"SELECT 1 FROM t JOIN u ON TRUE GROUP BY a",
		"SELECT a FROM t GROUP BY a HAVING zz",
		"SELECT zz FROM t GROUP BY a",
		"SELECT COUNT(zz) FROM t",
		"SELECT SUM(u.a) FROM t",
		"SELECT 1 FROM t WHERE COUNT(zz) = 1",
		"SELECT 1 FROM t ORDER BY MAX(zz)",
	)
}

// TestClausesInOrder: of two that err the one that stands ahead: FROM, ON, WHERE, GROUP BY, HAVING, items, ORDER BY; how many items there are comes last.
func TestClausesInOrder(t *testing.T) {
	wantClasses(t, "P13.2", api.ErrName,
		"SELECT 'x' + 1 FROM t JOIN u ON zz JOIN v ON 1 WHERE 1",
		"SELECT 'x' + 1 FROM t JOIN u ON TRUE JOIN v ON zz WHERE 1",
		"SELECT 'x' + 1 FROM t WHERE zz GROUP BY 1",
		"SELECT 'x' + 1 FROM t GROUP BY zz, 1 HAVING 1",
		"SELECT 'x' + 1 FROM t GROUP BY a HAVING zz ORDER BY b",
		"SELECT zz, 'x' + 1 FROM t ORDER BY 1 + 'x'",
		"SELECT zz, * FROM t GROUP BY a ORDER BY b",
		"SELECT zz, b FROM t GROUP BY a",
		"SELECT zz + b FROM t GROUP BY a",
		"SELECT 1 FROM t ORDER BY zz, 'x' + 1",
		"SELECT DISTINCT 1 FROM t ORDER BY zz, a",
		"SELECT DISTINCT a FROM t ORDER BY a, zz, b",
		"SELECT *, *, *, 1, zz FROM w ORDER BY 'x' + 1",
		"SELECT *, *, *, 1 FROM w ORDER BY zz",
		"SELECT SUM(zz + COUNT(*)) FROM t",
		"SELECT SUM(zz || 1) + b FROM t",
	)
	wantClasses(t, "P13.2", api.ErrType,
		"SELECT zz FROM t JOIN u ON 1 JOIN v ON zz WHERE zz",
		"SELECT zz FROM t JOIN u ON TRUE JOIN v ON 1 WHERE zz",
		"SELECT zz FROM t WHERE 1 GROUP BY zz",
		"SELECT zz FROM t GROUP BY 1, zz HAVING zz",
		"SELECT zz FROM t GROUP BY a HAVING 1 ORDER BY zz",
		"SELECT zz FROM t GROUP BY a HAVING b",
		"SELECT 'x' + 1, zz FROM t ORDER BY zz",
		"SELECT *, zz FROM t GROUP BY a ORDER BY zz",
		"SELECT b, zz FROM t GROUP BY a",
		"SELECT b + zz FROM t GROUP BY a",
		"SELECT 1 FROM t ORDER BY 'x' + 1, zz",
		"SELECT DISTINCT 1 FROM t ORDER BY a, zz",
		"SELECT *, *, *, 1, 'x' + 1 FROM w",
		"SELECT *, *, *, 1 FROM w ORDER BY 'x' + 1",
		"SELECT DISTINCT *, *, *, 1 FROM w ORDER BY 2",
		"SELECT SUM(COUNT(*) + zz) FROM t",
		"SELECT MAX(a) + b, zz FROM t",
	)
	wantClasses(t, "P13.2", api.ErrLimit,
		"SELECT DISTINCT *, *, *, 1 FROM w ORDER BY 1",
		"SELECT *, *, *, 1 FROM w WHERE p = 1 ORDER BY p",
	)
}

// TestHowManyItems: 18 are taken, and none more.
func TestHowManyItems(t *testing.T) {
	wantClasses(t, "P13.2", 0,
		"SELECT *, *, * FROM w",
		"SELECT * FROM w JOIN w x ON TRUE JOIN w y ON TRUE",
		"SELECT *, *, 1, 2, 3, 4, 5, 6 FROM w",
		"SELECT "+row(9, "*")+" FROM v",
		"SELECT "+row(10, "p")+" FROM w",
		"SELECT *, *, *, *, *, * FROM t",
	)
	wantClasses(t, "P13.2", api.ErrLimit,
		"SELECT *, *, *, 1 FROM w",
		"SELECT 1, *, *, * FROM w",
		"SELECT *, *, *, * FROM w",
		"SELECT *, x.p FROM w JOIN w x ON TRUE JOIN w y ON TRUE",
		"SELECT "+row(10, "*")+" FROM v",
		"SELECT "+row(10, "*")+" FROM w JOIN w x ON TRUE JOIN w y ON TRUE",
		"SELECT *, *, *, *, *, *, NULL FROM t",
	)
	out, c := stmt(t, schema(t), statement(t, "SELECT * FROM w x JOIN w ON TRUE JOIN w y ON TRUE"))
	if c != 0 || len(out.Items) != 18 {
		t.Fatalf("P13.2: class %d, %s", c, showStmt(out))
	}
	for i, item := range out.Items {
		want := api.Expr{Kind: api.ECol, Table: []string{"x", "w", "y"}[i/6], Name: string("pqrstu"[i%6]), At: i, Type: api.Int}
		if item.Star || item.Name != "" || !equal(item.Expr, want) {
			t.Errorf("P13.2: item %d: %+v", i, item)
		}
	}
}

// TestDistinct: what is ordered by must be an item, however its columns are named.
func TestDistinct(t *testing.T) {
	wantTold(t, map[string]string{
		"SELECT DISTINCT a FROM t ORDER BY t.a DESC":                          "a@0:I; BY t.a@0:I",
		"SELECT DISTINCT * FROM t ORDER BY b, t.c":                            "t.a@0:I; t.b@1:T; t.c@2:B; BY b@1:T; BY t.c@2:B",
		"SELECT DISTINCT a + 1 AS y FROM t z ORDER BY z.a + 1":                "(+ a@0:I 1:I):I AS y; BY (+ z.a@0:I 1:I):I",
		"SELECT DISTINCT 1, NULL FROM t ORDER BY NULL, 1":                     "1:I; NULL:0; BY NULL:0; BY 1:I",
		"SELECT DISTINCT COUNT(*), MAX(t.b) FROM t ORDER BY MAX(b), COUNT(*)": "(COUNT):I; (MAX t.b@1:T):T; BY (MAX b@1:T):T; BY (COUNT):I",
		"SELECT DISTINCT a FROM t GROUP BY a ORDER BY t.a":                    "a@0:I; GROUP a@0:I; BY t.a@0:I",
		"SELECT DISTINCT a FROM t":                                            "a@0:I",
		"SELECT DISTINCT CASE WHEN c THEN a END, c IN (TRUE, t.c) FROM t ORDER BY t.c IN (TRUE, c), CASE WHEN t.c THEN t.a END": "(CASE c@2:B a@0:I):I; (IN c@2:B TRUE:B t.c@2:B):B; BY (IN t.c@2:B TRUE:B c@2:B):B; BY (CASE t.c@2:B t.a@0:I):I",
	})
	wantClasses(t, "P13.2", api.ErrType,
		"SELECT DISTINCT a FROM t ORDER BY b",
		"SELECT DISTINCT a FROM t ORDER BY a, b",
		"SELECT DISTINCT a FROM t ORDER BY 1",
		"SELECT DISTINCT a FROM t ORDER BY NULL",
		"SELECT DISTINCT a + 1 FROM t ORDER BY a",
		"SELECT DISTINCT a FROM t ORDER BY a + 1",
		"SELECT DISTINCT a + 1 FROM t ORDER BY a + 2",
		"SELECT DISTINCT a + 1 FROM t ORDER BY 1 + a",
		"SELECT DISTINCT a + 1 FROM t ORDER BY a - 1",
		"SELECT DISTINCT a + 1 FROM t ORDER BY a + 1, a",
		"SELECT DISTINCT t.a FROM t JOIN u ON TRUE ORDER BY u.a",
		"SELECT DISTINCT p FROM w ORDER BY q",
		"SELECT DISTINCT * FROM t ORDER BY a + 1",
		"SELECT DISTINCT COUNT(a) FROM t ORDER BY COUNT(*)",
		"SELECT DISTINCT MIN(a) FROM t ORDER BY MAX(a)",
		"SELECT DISTINCT a IN (1, 2) FROM t ORDER BY a IN (1)",
		"SELECT DISTINCT 1 FROM t ORDER BY TRUE",
		"SELECT DISTINCT '1' FROM t ORDER BY 1",
		"SELECT DISTINCT '' FROM t ORDER BY 0",
		"SELECT DISTINCT NULL FROM t ORDER BY 0",
		"SELECT DISTINCT c FROM t ORDER BY c IS NULL",
		"SELECT DISTINCT c IS NULL FROM t ORDER BY c IS NOT NULL",
		"SELECT DISTINCT c IN (TRUE) FROM t ORDER BY CASE WHEN c THEN TRUE END",
	)
	wantClasses(t, "P13.2", 0, "SELECT a FROM t ORDER BY b", "SELECT a + 1 FROM t ORDER BY a, 7")
}

// TestTheRestStays: what isn't told is as it was.
func TestTheRestStays(t *testing.T) {
	x := statement(t, "SELECT DISTINCT a AS y, t.b FROM t LEFT JOIN v z ON y WHERE c ORDER BY a DESC, b LIMIT 9")
	out, c := stmt(t, schema(t), x)
	if c != 0 || !out.Distinct || out.Limit != 9 || out.Items[0].Name != "y" || out.Items[1].Name != "" || out.Items[1].Expr.Table != "t" || out.Items[0].Expr.Table != "" ||
		out.From[1].Name != "v" || out.From[1].Alias != "z" || !out.From[1].Left || out.From[0].Left || !out.Order[0].Desc || out.Order[1].Desc {
		t.Errorf("P13.2: class %d, %+v", c, out)
	}
}
