package parse_test

import (
	"fmt"
	"testing"

	"quayside/api"
	"quayside/parse"
)

// put is a text with parts of it put in.
func put(form string, parts ...any) string { return fmt.Sprintf(form, parts...) }

// TestPa1Item: all columns, expressions, with names and without.
func TestPa1Item(t *testing.T) {
	for _, x := range [][2]string{
		{"SELECT *", "{*}"},
		{"select 1", "{1@7}"},
		{" SELECT a AS b", "{a@8 AS b}"},
		{`SELECT a as "b c", *, (1) AS sum, t.c, - d AS "AS"`, "{a@7 AS b c, *, 1@23 AS sum, t.c@34, (NEG@39 d@41) AS AS}"},
		{"SELECT a OR b AS c, NOT d", "{(OR@7 a@7 b@12) AS c, (NOT@20 d@24)}"},
		{"SELECT *, *", "{*, *}"},
		{"SELECT * , 1 * 2", "{*, (*@11 1@11 2@15)}"},
		{"SELECT DISTINCT *", "{DISTINCT *}"},
		{"select distinct a, b", "{DISTINCT a@16, b@19}"},
		{"SELECT (SELECT 1) AS one", "{(SUB@8 {1@15}) AS one}"},
		{"SELECT COUNT(*), *", "{(COUNT*@7), *}"},
	} {
		queries(t, x[0], x[1])
	}
	for s, at := range map[string]int{
		"SELECT":                     6,
		"SELECT ,":                   7,
		"SELECT a,":                  9,
		"SELECT a,,b":                9,
		"SELECT a b":                 9,
		"SELECT a AS":                11,
		"SELECT a AS 1":              12,
		"SELECT a AS 'b'":            12,
		"SELECT a AS SELECT":         12,
		"SELECT a AS b c":            14,
		"SELECT a AS b.c":            13,
		"SELECT * AS a":              9,
		"SELECT * a":                 9,
		"SELECT * + 1":               9,
		"SELECT **":                  8,
		"SELECT t.*":                 9,
		"SELECT (*)":                 8,
		"SELECT DISTINCT":            15,
		"SELECT DISTINCT DISTINCT a": 16,
		"SELECT ALL a":               7,
		"SELECT SELECT":              7,
		"SELECT FROM t":              7,
	} {
		refusedQuery(t, s, at)
	}
}

// TestPa1Source: names with others and without, behind commas, and joined in each way.
func TestPa1Source(t *testing.T) {
	for _, x := range [][2]string{
		{"SELECT * FROM t", "{* FROM t@14}"},
		{"SELECT * FROM t u", "{* FROM t AS u@14}"},
		{"SELECT * FROM t AS u", "{* FROM t AS u@14}"},
		{`SELECT * FROM "from" "as"`, "{* FROM from AS as@14}"},
		{"SELECT * FROM t, u", "{* FROM t@14, u@17}"},
		{"SELECT * FROM t a, u AS b, v", "{* FROM t AS a@14, u AS b@19, v@27}"},
		{"SELECT * FROM t JOIN u ON a", "{* FROM t@14, u@21 ON a@26}"},
		{"SELECT * FROM t INNER JOIN u ON a", "{* FROM t@14, u@27 ON a@32}"},
		{"SELECT * FROM t LEFT JOIN u ON a", "{* FROM t@14, LEFT u@26 ON a@31}"},
		{"SELECT * FROM t a left join u as b on a.x = b.x", "{* FROM t AS a@14, LEFT u AS b@28 ON (=@38 a.x@38 b.x@44)}"},
		{"SELECT * FROM t JOIN u v ON a OR b JOIN w ON (c), x", "{* FROM t@14, u AS v@21 ON (OR@28 a@28 b@33), w@40 ON c@46, x@50}"},
		{"SELECT * FROM t, u LEFT JOIN v ON 1, w INNER JOIN x ON 2 LEFT JOIN y ON 3", "{* FROM t@14, u@17, LEFT v@29 ON 1@34, w@37, x@50 ON 2@55, LEFT y@67 ON 3@72}"},
	} {
		queries(t, x[0], x[1])
	}
	for s, at := range map[string]int{
		"SELECT * FROM":                        13,
		"SELECT * FROM 1":                      14,
		"SELECT * FROM 't'":                    14,
		"SELECT * FROM (t)":                    14,
		"SELECT * FROM (SELECT 1)":             14,
		"SELECT * FROM WHERE":                  14,
		"SELECT * FROM *":                      14,
		"SELECT * FROM t.u":                    15,
		"SELECT * FROM t AS":                   18,
		"SELECT * FROM t AS 1":                 19,
		"SELECT * FROM t u v":                  18,
		"SELECT * FROM t AS u v":               21,
		"SELECT * FROM t(1)":                   15,
		"SELECT * FROM t,":                     16,
		"SELECT * FROM t, JOIN u ON 1":         17,
		"SELECT * FROM t, u ON 1":              19,
		"SELECT * FROM t ON 1":                 16,
		"SELECT * FROM t JOIN":                 20,
		"SELECT * FROM t JOIN u":               22,
		"SELECT * FROM t JOIN u, v":            22,
		"SELECT * FROM t JOIN u ON":            25,
		"SELECT * FROM t JOIN u JOIN v ON 1":   23,
		"SELECT * FROM t JOIN u WHERE 1":       23,
		"SELECT * FROM t LEFT u ON 1":          21,
		"SELECT * FROM t INNER u ON 1":         22,
		"SELECT * FROM t LEFT INNER JOIN u":    21,
		"SELECT * FROM t INNER LEFT JOIN u":    22,
		"SELECT * FROM t JOIN LEFT u ON 1":     21,
		"SELECT * FROM t LEFT":                 20,
		"SELECT * FROM t INNER":                21,
		"SELECT * FROM t JOIN u ON 1 ON 2":     28,
		"SELECT * FROM t LEFT JOIN u AS ON 1":  31,
		"SELECT * FROM t FROM u":               16,
		"SELECT * FROM t JOIN u ON SELECT 1":   26,
		"SELECT * FROM t LEFT, u":              20,
		"SELECT * FROM t JOIN (SELECT 1) ON 1": 21,
	} {
		refusedQuery(t, s, at)
	}
}

// TestPa1Select: each of its parts alone, and all of them, in their order.
func TestPa1Select(t *testing.T) {
	for _, x := range [][2]string{
		{"SELECT 1 WHERE a", "{1@7 WHERE a@15}"},
		{"SELECT 1 WHERE a OR b", "{1@7 WHERE (OR@15 a@15 b@20)}"},
		{"SELECT 1 GROUP BY a", "{1@7 GROUP a@18}"},
		{"SELECT 1 group by a, (b + 1), 'c'", "{1@7 GROUP a@18, (+@22 b@22 1@26), 'c'@30}"},
		{"SELECT 1 HAVING a", "{1@7 HAVING a@16}"},
		{"SELECT 1 having a and b", "{1@7 HAVING (AND@16 a@16 b@22)}"},
		{"SELECT 1 WHERE a HAVING b", "{1@7 WHERE a@15 HAVING b@24}"},
		{"SELECT 1 FROM t HAVING b", "{1@7 FROM t@14 HAVING b@23}"},
		{"SELECT 1 FROM t GROUP BY b", "{1@7 FROM t@14 GROUP b@25}"},
		{"SELECT DISTINCT a FROM t WHERE b GROUP BY c, d HAVING e", "{DISTINCT a@16 FROM t@23 WHERE b@31 GROUP c@42, d@45 HAVING e@54}"},
	} {
		queries(t, x[0], x[1])
	}
	for s, at := range map[string]int{
		"SELECT 1 WHERE":                           14,
		"SELECT 1 WHERE a, b":                      16,
		"SELECT 1 WHERE a WHERE b":                 17,
		"SELECT 1 WHERE a FROM t":                  17,
		"SELECT 1 WHERE SELECT 1":                  15,
		"SELECT 1 WHERE *":                         15,
		"SELECT 1 GROUP":                           14,
		"SELECT 1 GROUP a":                         15,
		"SELECT 1 GROUP BY":                        17,
		"SELECT 1 GROUP BY a,":                     20,
		"SELECT 1 GROUP BY a b":                    20,
		"SELECT 1 GROUP BY a DESC":                 20,
		"SELECT 1 GROUP BY *":                      18,
		"SELECT 1 GROUP BY a WHERE b":              20,
		"SELECT 1 GROUP BY a GROUP BY b":           20,
		"SELECT 1 GROUP BY SELECT 1":               18,
		"SELECT 1 HAVING":                          15,
		"SELECT 1 HAVING a, b":                     17,
		"SELECT 1 HAVING a GROUP BY b":             18,
		"SELECT 1 HAVING a WHERE b":                18,
		"SELECT 1 BY a":                            9,
		"SELECT 1 FROM t GROUP BY a FROM u":        27,
		"SELECT 1 FROM t WHERE a LEFT JOIN u ON b": 24,
	} {
		refusedQuery(t, s, at)
	}
}

// TestPa1Joining: selects, joined in each way; they stand one behind the other.
func TestPa1Joining(t *testing.T) {
	for _, x := range [][2]string{
		{"SELECT 1 UNION ALL SELECT 2", "{1@7; ALL 2@26}"},
		{"SELECT 1 union SELECT 2", "{1@7; UNION 2@22}"},
		{"SELECT 1 INTERSECT SELECT 2", "{1@7; INTERSECT 2@26}"},
		{"SELECT 1 EXCEPT SELECT 2", "{1@7; EXCEPT 2@23}"},
		{"SELECT 1 UNION SELECT DISTINCT 2 EXCEPT SELECT 3 UNION ALL SELECT 4 INTERSECT SELECT 5", "{1@7; UNION DISTINCT 2@31; EXCEPT 3@47; ALL 4@66; INTERSECT 5@85}"},
		{"SELECT * FROM t WHERE a UNION SELECT * FROM u GROUP BY b EXCEPT SELECT 1 HAVING c INTERSECT SELECT 2", "{* FROM t@14 WHERE a@22; UNION * FROM u@44 GROUP b@55; EXCEPT 1@71 HAVING c@80; INTERSECT 2@99}"},
		{"SELECT * FROM t JOIN u ON 1 UNION SELECT * FROM t, v", "{* FROM t@14, u@21 ON 1@26; UNION * FROM t@48, v@51}"},
	} {
		queries(t, x[0], x[1])
	}
	for s, at := range map[string]int{
		"SELECT 1 UNION":                     14,
		"SELECT 1 UNION ALL":                 18,
		"SELECT 1 UNION 2":                   15,
		"SELECT 1 UNION DISTINCT SELECT 2":   15,
		"SELECT 1 UNION (SELECT 2)":          15,
		"SELECT 1 INTERSECT ALL SELECT 2":    19,
		"SELECT 1 EXCEPT ALL SELECT 2":       16,
		"SELECT 1 UNION ALL ALL SELECT 2":    19,
		"SELECT 1 UNION UNION SELECT 2":      15,
		"SELECT 1 ALL SELECT 2":              9,
		"SELECT 1 SELECT 2":                  9,
		"SELECT 1 ORDER BY 1 UNION SELECT 2": 20,
		"SELECT 1 LIMIT 1 UNION SELECT 2":    17,
		"SELECT 1 EXCEPT SELECT":             22,
		"(SELECT 1) UNION SELECT 2":          0,
		"UNION SELECT 1":                     0,
	} {
		if at > 0 {
			refusedQuery(t, s, at)
		} else {
			wrongQuery(t, s, at, api.ErrParse)
		}
	}
}

// TestPa1Order: by places and names, rising and falling.
func TestPa1Order(t *testing.T) {
	for _, x := range [][2]string{
		{"SELECT 1 ORDER BY 1", "{1@7 ORDER 1@18}"},
		{"SELECT 1 ORDER BY 9223372036854775807", "{1@7 ORDER 9223372036854775807@18}"},
		{"SELECT 1 order by a", "{1@7 ORDER a@18}"},
		{"SELECT 1 ORDER BY 1 ASC", "{1@7 ORDER 1@18}"},
		{"SELECT 1 ORDER BY 1 desc", "{1@7 ORDER 1 DESC@18}"},
		{"SELECT 1 ORDER BY a asc", "{1@7 ORDER a@18}"},
		{"SELECT 1 ORDER BY a DESC", "{1@7 ORDER a DESC@18}"},
		{`SELECT 1 ORDER BY 2 DESC, "desc" ASC, c, 17, "1" DESC`, "{1@7 ORDER 2 DESC@18, desc@26, c@38, 17@41, 1 DESC@45}"},
		{"SELECT 1 FROM t WHERE a ORDER BY b", "{1@7 FROM t@14 WHERE a@22 ORDER b@33}"},
		{"SELECT 1 FROM t ORDER BY b", "{1@7 FROM t@14 ORDER b@25}"},
		{"SELECT 1 UNION SELECT 2 ORDER BY 1", "{1@7; UNION 2@22 ORDER 1@33}"},
	} {
		queries(t, x[0], x[1])
	}
	if q, _, _ := parse.Query(`SELECT 1 ORDER BY "1", 1`); len(q.Order) != 2 || q.Order[0] != (api.Key{Name: "1", At: 18}) || q.Order[1] != (api.Key{Place: 1, At: 23}) {
		t.Error(q.Order)
	}
	for s, at := range map[string]int{
		"SELECT 1 ORDER":                 14,
		"SELECT 1 ORDER 1":               15,
		"SELECT 1 ORDER BY":              17,
		"SELECT 1 ORDER BY 0":            18,
		"SELECT 1 ORDER BY 1, 0":         21,
		"SELECT 1 ORDER BY -1":           18,
		"SELECT 1 ORDER BY 'a'":          18,
		"SELECT 1 ORDER BY (a)":          18,
		"SELECT 1 ORDER BY *":            18,
		"SELECT 1 ORDER BY NULL":         18,
		"SELECT 1 ORDER BY t.a":          19,
		"SELECT 1 ORDER BY a + 1":        20,
		"SELECT 1 ORDER BY a,":           20,
		"SELECT 1 ORDER BY a b":          20,
		"SELECT 1 ORDER BY a ASC DESC":   24,
		"SELECT 1 ORDER BY a DESC ASC":   25,
		"SELECT 1 ORDER BY a DESC DESC":  25,
		"SELECT 1 ORDER BY a(b)":         19,
		"SELECT 1 ORDER BY ABS(b)":       21,
		"SELECT 1 ORDER BY DESC":         18,
		"SELECT 1 ORDER BY 1 ORDER BY 2": 20,
		"SELECT 1 ORDER BY 1 WHERE a":    20,
	} {
		refusedQuery(t, s, at)
	}
}

// TestPa1Limit: none, one, and one with where it begins.
func TestPa1Limit(t *testing.T) {
	for _, x := range [][2]string{
		{"SELECT 1 LIMIT 0", "{1@7 LIMIT 0}"},
		{"SELECT 1 limit 5", "{1@7 LIMIT 5}"},
		{"SELECT 1 LIMIT 5 OFFSET 0", "{1@7 LIMIT 5}"},
		{"SELECT 1 LIMIT 0 offset 7", "{1@7 LIMIT 0 OFFSET 7}"},
		{"SELECT 1 LIMIT 9223372036854775807 OFFSET 9223372036854775807", "{1@7 LIMIT 9223372036854775807 OFFSET 9223372036854775807}"},
		{"SELECT 1 ORDER BY 1 LIMIT 2 OFFSET 3", "{1@7 ORDER 1@18 LIMIT 2 OFFSET 3}"},
		{"SELECT a FROM t LIMIT 2", "{a@7 FROM t@14 LIMIT 2}"},
		{"SELECT (SELECT 1 LIMIT 2 OFFSET 3) LIMIT 4", "{(SUB@8 {1@15 LIMIT 2 OFFSET 3}) LIMIT 4}"},
	} {
		queries(t, x[0], x[1])
	}
	if q, _, _ := parse.Query("SELECT (SELECT 1)"); q.Limit != -1 || q.Offset != 0 || q.Selects[0].Items[0].Expr.Sub[0].Limit != -1 {
		t.Error(q)
	}
	for s, at := range map[string]int{
		"SELECT 1 LIMIT":                     14,
		"SELECT 1 LIMIT a":                   15,
		"SELECT 1 LIMIT -1":                  15,
		"SELECT 1 LIMIT '1'":                 15,
		"SELECT 1 LIMIT (1)":                 15,
		"SELECT 1 LIMIT ALL":                 15,
		"SELECT 1 LIMIT 1 + 1":               17,
		"SELECT 1 LIMIT 1, 2":                16,
		"SELECT 1 LIMIT 1 LIMIT 2":           17,
		"SELECT 1 LIMIT 1 OFFSET":            23,
		"SELECT 1 LIMIT 1 OFFSET a":          24,
		"SELECT 1 LIMIT 1 OFFSET -1":         24,
		"SELECT 1 LIMIT 1 OFFSET 1 LIMIT 1":  26,
		"SELECT 1 LIMIT 1 OFFSET 1 OFFSET 1": 26,
		"SELECT 1 OFFSET 1":                  9,
		"SELECT 1 OFFSET 1 LIMIT 1":          9,
		"SELECT 1 LIMIT 1 ORDER BY 1":        17,
	} {
		refusedQuery(t, s, at)
	}
}
