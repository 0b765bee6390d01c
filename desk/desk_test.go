package desk_test

import (
	"fmt"
	"strconv"
	"strings"
	"testing"

	"affidavit/api"
	"affidavit/canon"
	"affidavit/desk"
	"affidavit/node"
	"affidavit/parse"
)

const (
	secret  = `"00000000000000000000000000000000"`
	another = `"11111111111111111111111111111111"`
)

func read(t testing.TB, s string) *node.Tree {
	t.Helper()
	tree, err := parse.Read([]byte(s), api.MaxDepth)
	if err != nil {
		t.Fatalf("%.80s: %v", s, err)
	}
	return tree
}

func form(t testing.TB, s string) string {
	t.Helper()
	b, err := canon.Bytes(read(t, s))
	if err != nil {
		t.Fatal(err)
	}
	return string(b)
}

func quote(t testing.TB, s string) string {
	t.Helper()
	q, err := canon.Quote(s)
	if err != nil {
		t.Fatal(err)
	}
	return q
}

// does does a line that is not refused.
func does(t testing.TB, d *desk.Desk, line string) string {
	t.Helper()
	answer, err := d.Do(line)
	if err != nil {
		t.Fatalf("%.200s is refused: %v", line, err)
	}
	return answer
}

// tells does lines, each behind it its answer.
func tells(t testing.TB, d *desk.Desk, pairs ...string) {
	t.Helper()
	for i := 0; i < len(pairs); i += 2 {
		if got := does(t, d, pairs[i]); got != pairs[i+1] {
			t.Errorf("%.200s: %.300s, want %.300s", pairs[i], got, pairs[i+1])
		}
	}
}

// goes does lines that go well.
func goes(t testing.TB, d *desk.Desk, lines ...string) {
	t.Helper()
	for _, line := range lines {
		if got := does(t, d, line); !strings.HasPrefix(got, `["ok"`) {
			t.Fatalf("%.200s: %.300s", line, got)
		}
	}
}

// behind is what stands behind ok in the answer of a line.
func behind(t testing.TB, d *desk.Desk, line string) string {
	t.Helper()
	got := does(t, d, line)
	if !strings.HasPrefix(got, `["ok",`) {
		t.Fatalf("%.200s: %.300s", line, got)
	}
	return got[len(`["ok",`) : len(got)-1]
}

func TestExamples(t *testing.T) {
	d := desk.New()
	tells(t, d,
		`["set", "a", {"x": [1, 2.50]}]`, `["ok"]`,
		`["tell","a"]`, `["ok",{"x":[1,2.5]}]`,
		`["form","a"]`, `["ok","{\"x\":[1,2.5]}"]`,
		`["size","a"]`, `["ok",4,1,3]`,
		`["find","a","/x/1"]`, `["ok",2.5]`,
		`["find","a","/y"]`, `["error",[4,""]]`,
		`["find","a","y"]`, `["error",[130,0]]`,
		`["ask","a","/x",3,1]`, `["ok",true,false,5,false]`,
		`["ask","a","/x",2,2]`, `["ok",false,true,0,false]`,
		`["ask","a","y",11,1]`, `["ok",true,false,0,true]`,
		`["ask","a","",0,1]`, `["error",[2]]`,
		`["patch","b","a",[{"op":"remove","path":"/x/0"}]]`, `["ok"]`,
		`["tell","b"]`, `["ok",{"x":[2.5]}]`,
		`["diff","c","b","a"]`, `["ok",1]`,
		`["tell","c"]`, `["ok",[{"op":"add","path":"/x/0","value":1}]]`,
		`["tell","z"]`, `["error",[321]]`,
		`["query","a","$.x[0]"]`, `["ok",["/x/0"]]`,
		`["key","k",`+secret+`]`, `["ok"]`,
		`["seal","e","a","t",["k"]]`, `["ok"]`,
		`["unseal","f","e",1,["k"]]`, `["ok",["trusted",["k"]]]`,
		`["judge","a",{"need":["by"]}]`, `["ok",["lacks","by"]]`,
		`["show"]`, `["error",[4]]`,
	)
	lines := d.Lines()
	for _, line := range []string{`[1]`, `["tell"]`, `["jump"]`, `{"a":1}`} {
		if answer, err := d.Do(line); answer != "" || err != api.ErrCommand {
			t.Errorf("%s: %s, %v", line, answer, err)
		}
	}
	if answer, err := d.Do("["); answer != "" || err != (api.Spot{Err: api.ErrEnd, At: 1}) {
		t.Errorf("[: %s, %v", answer, err)
	}
	if lines != 22 || d.Lines() != lines {
		t.Errorf("Lines: %d, and %d", lines, d.Lines())
	}
}

// order is a line that goes well, with the kinds of its values.
type order struct {
	word, kinds string
	values      []string
}

func (o order) line(values ...string) string {
	return "[" + strings.Join(append([]string{strconv.Quote(o.word)}, values...), ",") + "]"
}

// with is the line with another value at a place.
func (o order) with(i int, value string) string {
	values := append([]string(nil), o.values...)
	values[i] = value
	return o.line(values...)
}

// ready is a desk with all that the orders ask for.
func ready(t testing.TB) (*desk.Desk, []order) {
	t.Helper()
	d := desk.New()
	goes(t, d, `["key","k",`+secret+`]`, `["key","w",`+another+`]`, `["key","v",`+another+`]`, `["set","a",{"x":[1,2],"y":null}]`, `["set","b",{"x":[1]}]`, `["set","s",{"need":["x"]}]`, `["set","c",{"about":"g","by":"k","may":["t"]}]`, `["set","g",1]`, `["grant","G","k","c"]`, `["seal","e","a","t",["g"]]`, `["put","a"]`, `["enter","a"]`, `["charter","o","w",["k"],"t",{}]`, `["witness","v",["w"]]`, `["submit",["G"],"e",5]`, `["prove","p","a","/x/0"]`, `["set","one",1]`)
	root, put := behind(t, d, `["root","a"]`), behind(t, d, `["put","a"]`)
	proof := behind(t, d, `["tell","p"]`)
	salt := `"` + strings.Repeat("0", 32) + `"`
	return d, []order{
		{"set", "nv", []string{`"n"`, `1`}},
		{"tell", "a", []string{`"a"`}},
		{"read", "nti", []string{`"n"`, `"[1]"`, `2`}},
		{"form", "a", []string{`"a"`}},
		{"size", "a", []string{`"a"`}},
		{"find", "at", []string{`"a"`, `"/x"`}},
		{"ask", "atii", []string{`"a"`, `"/x"`, `1`, `1`}},
		{"all", "ai", []string{`"a"`, `1`}},
		{"order", "aa", []string{`"a"`, `"b"`}},
		{"patch", "nav", []string{`"n"`, `"a"`, `[]`}},
		{"undo", "nav", []string{`"n"`, `"a"`, `[]`}},
		{"diff", "naa", []string{`"n"`, `"a"`, `"b"`}},
		{"merge", "naa", []string{`"n"`, `"a"`, `"b"`}},
		{"three", "naaa", []string{`"n"`, `"a"`, `"b"`, `"c"`}},
		{"shape", "aa", []string{`"a"`, `"s"`}},
		{"query", "at", []string{`"a"`, `"$"`}},
		{"hide", "nnap", []string{`"n"`, `"m"`, `"a"`, `[["/x",` + salt + `]]`}},
		{"open", "nao", []string{`"n"`, `"a"`, `[]`}},
		{"hidden", "a", []string{`"a"`}},
		{"root", "a", []string{`"a"`}},
		{"prove", "nat", []string{`"n"`, `"a"`, `"/x"`}},
		{"check", "dtal", []string{root, `"/x/0"`, `"one"`, proof}},
		{"key", "tx", []string{`"k"`, secret}},
		{"seal", "natK", []string{`"n"`, `"a"`, `"t"`, `["k"]`}},
		{"unseal", "naiK", []string{`"n"`, `"e"`, `1`, `["k"]`}},
		{"judge", "ar", []string{`"a"`, `{}`}},
		{"grant", "nka", []string{`"n"`, `"k"`, `"c"`}},
		{"verify", "nAaKr", []string{`"n"`, `["G"]`, `"e"`, `["k"]`, `{}`}},
		{"enter", "a", []string{`"a"`}},
		{"stands", "ii", []string{`0`, `1`}},
		{"grew", "ii", []string{`0`, `1`}},
		{"put", "a", []string{`"a"`}},
		{"get", "nd", []string{`"n"`, put}},
		{"charter", "tkKtr", []string{`"o"`, `"w"`, `["k"]`, `"t"`, `{}`}},
		{"witness", "kK", []string{`"v"`, `["w"]`}},
		{"submit", "Aai", []string{`["G"]`, `"e"`, `5`}},
		{"receipt", "d", []string{put}},
		{"show", "", nil},
	}
}

// wrong are values that are not of a kind.
func wrong(kind rune) []string {
	number := []string{`-1`, `1.5`, `9007199254740992`, `1e300`, `"1"`, `null`, `[1]`}
	name := []string{`""`, `"` + strings.Repeat("n", 65) + `"`, `"` + strings.Repeat("é", 33) + `"`, `1`, `["a"]`, `null`}
	letters := []string{`"0"`, `"0G"`, `"0A"`, `"0x"`, `1`, `null`, `["00"]`}
	digest := append([]string{`""`, `"00"`, `"` + strings.Repeat("0", 62) + `"`, `"` + strings.Repeat("0", 66) + `"`, `"` + strings.Repeat("A", 64) + `"`}, letters...)
	within := func(lists string, values []string) []string {
		l := []string{`1`, `"a"`, `{}`, `null`}
		for _, v := range values {
			l = append(l, strings.ReplaceAll(lists, "_", v))
		}
		return l
	}
	switch kind {
	case 'n', 'a':
		return name
	case 't', 'k':
		return []string{`1`, `null`, `["a"]`, `{}`, `true`}
	case 'i':
		return number
	case 'x':
		return letters
	case 'd':
		return digest
	case 'K':
		return within(`[_]`, []string{`1`, `null`, `["k"]`})
	case 'A':
		return within(`["G",_]`, name)
	case 'r':
		l := []string{`[]`, `1`, `null`, `{"x":1}`, `{"until":1}`, `{"who":1}`, `{"who":["a"]}`, `{"Now":1}`}
		for _, n := range number {
			l = append(l, `{"now":`+n+`}`, `{"now":1,"slack":`+n+`}`)
		}
		for _, v := range []string{`"a"`, `[1]`, `["a",null]`, `{}`} {
			l = append(l, `{"by":`+v+`}`, `{"need":`+v+`}`, `{"may":`+v+`}`)
		}
		return l
	case 'p':
		return append(within(`[["/x",_]]`, letters), `["/x","00"]`, `[[]]`, `[["/x"]]`, `[["/x","00","00"]]`, `[[1,"00"]]`, `[{"a":"/x","b":"00"}]`)
	case 'o':
		return append(within(`[[_,1]]`, letters), `["00",1]`, `[[]]`, `[["00"]]`, `[["00",1,1]]`, `[{"a":"00","b":1}]`)
	case 'l':
		l := append(within(`[[5,1,0,[_]]]`, digest), `[[]]`, `[[5,1,0]]`, `[[5,1,0,[],1]]`, `[5,1,0,[]]`, `[[5,1,0,1]]`, `[{"a":5,"b":1,"c":0,"d":[]}]`)
		for _, n := range number {
			l = append(l, `[[`+n+`,1,0,[]]]`, `[[5,`+n+`,0,[]]]`, `[[5,1,`+n+`,[]]]`)
		}
		return l
	}
	return nil
}

func TestKinds(t *testing.T) {
	d, orders := ready(t)
	if len(orders) != 38 {
		t.Fatalf("there are %d orders", len(orders))
	}
	for _, o := range orders {
		refused := []string{o.line(append([]string{`1`}, o.values...)...), o.line(append(o.values, `"a"`)...)}
		if len(o.values) > 0 {
			refused = append(refused, o.line(o.values[1:]...), o.line(o.values[:len(o.values)-1]...))
		}
		for i, kind := range o.kinds {
			for _, v := range wrong(kind) {
				refused = append(refused, o.with(i, v))
			}
		}
		for _, line := range refused {
			if answer, err := d.Do(line); answer != "" || err != api.ErrCommand {
				t.Errorf("%.200s: %.100s, %v", line, answer, err)
			}
		}
		goes(t, d, o.line(o.values...))
	}
}

func TestNobody(t *testing.T) {
	d, orders := ready(t)
	for i := range api.MaxDesk { // as many names as there can be
		d.Do(fmt.Sprintf(`["set","fill%d",1]`, i))
	}
	empty := desk.New()
	for _, o := range orders {
		for i, kind := range o.kinds {
			var names []string
			switch kind {
			case 'a', 'k':
				names = []string{`"nobody"`}
			case 'A', 'K':
				names = []string{`["nobody"]`, strings.TrimSuffix(o.values[i], "]") + `,"nobody"]`}
			}
			for _, name := range names {
				tells(t, d, o.with(i, name), `["error",[321]]`)
				tells(t, empty, o.with(i, name), `["error",[321]]`)
			}
		}
	}
	lines := empty.Lines()
	tells(t, empty, `["receipt","`+strings.Repeat("0", 64)+`"]`, `["error",[4]]`, `["show"]`, `["error",[4]]`, `["set","e",1]`, `["ok"]`, `["submit",[],"e",5]`, `["error",[4]]`, `["submit",["x"],"e",5]`, `["error",[321]]`, `["key","k",`+secret+`]`, `["ok"]`, `["key","w",`+secret+`]`, `["ok"]`, `["witness","k",["w"]]`, `["ok"]`, `["show"]`, `["error",[4]]`, `["charter","o","w",["k"],"t",{}]`, `["ok"]`, `["show"]`, `["ok",["fresh","o",0]]`)
	if empty.Lines() != lines+11 {
		t.Errorf("Lines: %d", empty.Lines()-lines)
	}
}

// fill names so many values.
func fill(t testing.TB, d *desk.Desk, n int) {
	t.Helper()
	for i := range n {
		goes(t, d, fmt.Sprintf(`["set","fill%d",%d]`, i, i))
	}
}

func TestRoom(t *testing.T) {
	d, orders := ready(t)
	goes(t, d, `["set","n",1]`, `["set","m",2]`)
	fill(t, d, api.MaxDesk-11) // a, b, s, c, g, G, e, p, one, n, m are there
	tells(t, d, `["set","more",1]`, `["error",[3]]`, `["tell","more"]`, `["error",[321]]`)
	for _, o := range orders {
		if i := strings.IndexRune(o.kinds, 'n'); i >= 0 {
			tells(t, d, o.with(i, `"more"`), `["error",[3]]`)
			goes(t, d, o.line(o.values...))
		}
	}
	hide := func(a, b, from string) string {
		return fmt.Sprintf(`["hide",%q,%q,%q,[["",%q]]]`, a, b, from, strings.Repeat("0", 32))
	}
	tells(t, d, hide("n", "more", "a"), `["error",[3]]`, hide("more", "n", "a"), `["error",[3]]`, hide("more", "more", "a"), `["error",[3]]`)
	// Ahead of what the layers say, and behind who is meant.
	tells(t, d, `["read","more","[",9]`, `["error",[3]]`, `["merge","more","nobody","a"]`, `["error",[321]]`, `["unseal","more","a",0,[]]`, `["error",[3]]`)
	d, _ = ready(t)
	fill(t, d, api.MaxDesk-10) // one is left
	tells(t, d, hide("one more", "two more", "a"), `["error",[3]]`, `["tell","one more"]`, `["error",[321]]`, hide("b", "one more", "a"), `["ok"]`, `["tell","one more"]`, `["ok",[["`+strings.Repeat("0", 32)+`",{"x":[1,2],"y":null}]]]`)
	d, _ = ready(t)
	fill(t, d, api.MaxDesk-10)
	tells(t, d, hide("both", "both", "one"), `["ok"]`, `["tell","both"]`, `["ok",[["`+strings.Repeat("0", 32)+`",1]]]`, hide("x", "x", "one"), `["error",[3]]`)
}
