package desk_test

import (
	"fmt"
	"math"
	"math/rand"
	"strings"
	"testing"

	"affidavit/api"
	"affidavit/base"
	"affidavit/canon"
	"affidavit/desk"
	"affidavit/digest"
	"affidavit/node"
	"affidavit/parse"
	"affidavit/sha"
)

func TestNil(t *testing.T) {
	var d *desk.Desk
	for _, line := range []string{"", "[", `["show"]`} {
		if answer, err := d.Do(line); answer != "" || err != api.ErrNil {
			t.Errorf("Do of nil: %s, %v", answer, err)
		}
	}
	if d.Lines() != 0 {
		t.Errorf("Lines of nil: %d", d.Lines())
	}
}

func TestLines(t *testing.T) {
	d := desk.New()
	if d.Lines() != 0 {
		t.Errorf("Lines of a new one: %d", d.Lines())
	}
	show := `["show"]`
	for i, c := range []struct {
		line, answer string
		err          error
	}{
		{"", "", nil}, {" \t\r ", "", nil}, {strings.Repeat(" ", api.MaxInput+1), "", nil}, {strings.Repeat(" ", api.MaxInput+1) + "x", "", api.ErrLong}, {show + strings.Repeat(" ", api.MaxInput-len(show)), `["error",[4]]`, nil}, {show + strings.Repeat(" ", api.MaxInput+1-len(show)), "", api.ErrLong}, {"\n", "", api.Spot{Err: api.ErrEnd, At: 1}}, {"[\n\"show\"\r\n]\n", `["error",[4]]`, nil}, {"\v", "", api.Spot{Err: api.ErrSyntax}}, {"\x00", "", api.Spot{Err: api.ErrSyntax}}, {`["tell","a"] x`, "", api.Spot{Err: api.ErrSyntax, At: 13}}, {strings.Repeat("[", 513), "", api.Spot{Err: api.ErrDepth, At: 512}}, {`["set","a",1e999]`, "", api.Spot{Err: api.ErrRange, At: 11}}, {`[]`, "", api.ErrCommand}, {`"show"`, "", api.ErrCommand}, {`[["show"]]`, "", api.ErrCommand}, {`[""]`, "", api.ErrCommand}, {`[null]`, "", api.ErrCommand}, {`["Show"]`, "", api.ErrCommand}, {`["\u0073how"]`, `["error",[4]]`, nil}, {`{"show":"show"}`, "", api.ErrCommand}, {`{"a":"tell","b":"a"}`, "", api.ErrCommand},
	} {
		ahead := d.Lines()
		answer, err := d.Do(c.line)
		if answer != c.answer || err != c.err {
			t.Errorf("line %d: %s, %v, want %s, %v", i, answer, err, c.answer, c.err)
		}
		if done := d.Lines() - ahead; (done == 1) != (c.err == nil) || done > 1 {
			t.Errorf("line %d counts %d times", i, done)
		}
	}
}

func TestRun(t *testing.T) {
	set, tell := `["set","a",1]`, `["tell","a"]`
	ok, one, none := `["ok"]`+"\n", `["ok",1]`+"\n", `["error",[321]]`+"\n"
	for i, c := range []struct {
		script, answers string
		lines           int
		err             error
	}{
		{"", "", 0, nil}, {"\n", "", 1, nil}, {"\n\n", "", 2, nil}, {" ", "", 1, nil}, {" \n\t", "", 2, nil}, {set, ok, 1, nil}, {set + "\n", ok, 1, nil}, {set + "\n ", ok, 2, nil}, {set + "\r\n" + tell + "\r\n", ok + one, 2, nil}, {tell + "\n" + set + "\n\n" + tell, none + ok + one, 4, nil}, {tell + "\n" + set + tell + "\n" + tell, none, 1, api.Spot{Err: api.ErrSyntax, At: len(set)}}, {set + "\n\n[1]\n" + tell, ok, 2, api.ErrCommand}, {"x", "", 0, api.Spot{Err: api.ErrSyntax}}, {"[\n]", "", 0, api.Spot{Err: api.ErrEnd, At: 1}}, {strings.Repeat("\n", api.MaxInput), "", api.MaxInput, nil}, {strings.Repeat("\n", api.MaxInput+1), "", 0, api.ErrLong}, {set + strings.Repeat(" ", api.MaxInput-len(set)), ok, 1, nil},
	} {
		if answers, lines, err := desk.Run(c.script); answers != c.answers || lines != c.lines || err != c.err {
			t.Errorf("script %d: %.200q, %d, %v, want %.200q, %d, %v", i, answers, lines, err, c.answers, c.lines, c.err)
		}
	}
}

func TestLongAnswers(t *testing.T) {
	n := api.MaxInput/16 - len(`["ok",""]`+"\n")
	set := fmt.Sprintf(`["set","a","%s"]`, strings.Repeat("x", n))
	tell := fmt.Sprintf(`["ok","%s"]`, strings.Repeat("x", n)) + "\n"
	ok := `["ok"]` + "\n"
	full := set + strings.Repeat("\n"+`["tell","a"]`, 16) // the answers have 7 bytes too many
	all := ok + strings.Repeat(tell, 16)
	for i, c := range []struct {
		script, answers string
		lines           int
		err             error
	}{
		{full, all, 17, nil}, {full + "\n \n\t\n", all, 19, nil}, {full + "\n" + `["show"]`, all, 17, api.ErrLong}, {full + "\n\n" + `["show"]` + "\n\n", all, 18, api.ErrLong}, {full + "\n\n[1]", all, 18, api.ErrCommand},
	} {
		if answers, lines, err := desk.Run(c.script); answers != c.answers || lines != c.lines || err != c.err {
			t.Errorf("script %d: %d bytes, %d, %v, want %d bytes, %d, %v", i, len(answers), lines, err, len(c.answers), c.lines, c.err)
		}
	}
	// At the limit goes; so does one line more.
	exact := fmt.Sprintf(`["set","b","%s"]`, strings.Repeat("x", n-2*len(ok)))
	script := set + "\n" + exact + strings.Repeat("\n"+`["tell","a"]`, 15) + "\n" + `["tell","b"]`
	answers, lines, err := desk.Run(script)
	if len(answers) != api.MaxInput || lines != 18 || err != nil {
		t.Errorf("at the limit: %d bytes, %d, %v", len(answers), lines, err)
	}
	if more, lines, err := desk.Run(script + "\n" + `["show"]`); more != answers+`["error",[4]]`+"\n" || lines != 19 || err != nil {
		t.Errorf("one line more: %d bytes, %d, %v", len(more), lines, err)
	}
}

// scribe writes lines by chance.
type scribe struct{ *rand.Rand }

func (s scribe) of(l ...string) string { return l[s.Intn(len(l))] }

func (s scribe) name() string { return s.of(`"a"`, `"b"`, `"c"`, `"e"`, `"g"`, `"none"`) }

func (s scribe) key() string { return s.of(`"k"`, `"w"`, `"v"`, `"x"`, `"g"`) }

func (s scribe) row(of func() string) string {
	l := make([]string, s.Intn(3))
	for i := range l {
		l[i] = of()
	}
	return "[" + strings.Join(l, ",") + "]"
}

// value is a value of any kind.
func (s scribe) value() string {
	return s.of(`1`, `null`, `{"a":1,"b":[1,2]}`, `{"b":{"a":null}}`, `{"about":"g","by":"k","may":["t"]}`, `{"until":7}`, `[1,"x",true]`, `{"need":["a"]}`, `{"sort":"list"}`, `[]`, `"x"`, `[{"op":"remove","path":"/a"}]`, `[{"op":"add","path":"/a","value":{"z":9}}]`, `1.50`)
}

// kind is a value as a kind has it.
func (s scribe) kind(kind rune) string {
	salt := `"` + strings.Repeat("0", 32) + `"`
	switch kind {
	case 'n', 'a':
		return s.name()
	case 't':
		return s.of(`"t"`, `""`, `"/a"`, `"/b/0"`, `"$..*"`, `"k"`, `"o"`, `"[1]"`, `"head"`)
	case 'i':
		return s.of(`0`, `1`, `2`, `5`, `11`, `600`)
	case 'x':
		return s.of(salt, `"00"`)
	case 'd':
		return s.of(`"`+strings.Repeat("0", 64)+`"`, `"6b86b273ff34fce19d6b804eff5a3f5747ada4eaa22f1d49c01e52ddb7875b4b"`) // SHA-256 of 1
	case 'k':
		return s.key()
	case 'K':
		return s.row(s.key)
	case 'A':
		return s.row(s.name)
	case 'r':
		return s.of(`{}`, `{"now":5}`, `{"now":9,"need":["until"]}`, `{"may":["t"]}`)
	case 'p':
		return s.of(`[]`, `[["/a",`+salt+`]]`, `[["",`+salt+`]]`)
	case 'o':
		return s.of(`[]`, `[[`+salt+`,1]]`)
	case 'l':
		return s.of(`[]`, `[[6,2,0,[]]]`)
	}
	return s.value()
}

// line is a line that a desk may answer, or refuse.
func (s scribe) line(orders []order) string {
	one, _ := node.Build([]api.Step{{Sort: api.SortNumber, Bits: math.Float64bits(1)}})
	ofOne, _ := digest.Of(one)
	docOfA := sha.Sum([]byte(`{"a":1,"b":[1,2]}`))
	o := orders[s.Intn(len(orders))]
	var values []string
	for _, kind := range o.kinds {
		values = append(values, s.kind(kind))
	}
	switch s.Intn(40) {
	case 0:
		return s.of("", "  ", "\t\r")
	case 1:
		return s.of("[", "1", `["none"]`, `[1]`, `["tell"]`)
	case 2:
		return `["check","` + base.Digest(ofOne) + `","","c",[]]`
	case 3:
		return `["receipt","` + base.Digest(docOfA) + `"]`
	}
	return o.line(values...)
}

// begin are lines with which a script begins.
func begin() []string {
	return []string{`["key","k",` + secret + `]`, `["key","w",` + another + `]`, `["key","v",` + another + `]`, `["set","a",{"a":1,"b":[1,2]}]`, `["set","b",{"about":"g","by":"k","may":["t"]}]`, `["set","c",1]`, `["seal","e","a","t",["k"]]`, `["charter","o","w",["k"],"t",{}]`, `["witness","v",["w"]]`, `["submit",[],"e",2]`, `["grant","g","k","b"]`}
}

// asked is what a desk answers of all that can be asked.
func asked(t testing.TB, d *desk.Desk) string {
	t.Helper()
	var answers strings.Builder
	ask := func(format string, values ...any) {
		answers.WriteString(does(t, d, fmt.Sprintf(format, values...)) + "\n")
	}
	for _, name := range []string{"a", "b", "c", "e", "g", "none", "asked"} {
		ask(`["tell",%q]`, name)
	}
	goes(t, d, `["set","asked",{"asked":1}]`)
	for _, key := range []string{"k", "w", "v", "x", "g", "t", "o", ""} {
		ask(`["seal","asked","asked","t",[%q]]`, key)
		ask(`["tell","asked"]`)
		goes(t, d, `["set","asked",{"asked":1}]`)
	}
	ask(`["show"]`)
	ask(`["enter","asked"]`)
	for n := range 30 {
		ask(`["stands",0,%d]`, n)
	}
	for _, sum := range []string{"6b86b273ff34fce19d6b804eff5a3f5747ada4eaa22f1d49c01e52ddb7875b4b", "74234e98afe7498fb5daf1f36ac2d78acc339464f950703b8c019892f982b90b"} { // of 1, of null
		ask(`["get","asked",%q]`, sum)
		ask(`["receipt",%q]`, sum)
	}
	return answers.String()
}

func TestWhatFollows(t *testing.T) {
	s := scribe{rand.New(rand.NewSource(32))}
	_, orders := ready(t)
	went := map[string]int{}
	for range 300 {
		one, two := desk.New(), desk.New()
		var script, answers []string
		for _, line := range begin() {
			script, answers = append(script, line), append(answers, does(t, one, line))
			does(t, two, line)
		}
		for range 40 {
			line := s.line(orders)
			answer, err := one.Do(line)
			if err != nil {
				if answer != "" {
					t.Fatalf("%s: %s beside %v", line, answer, err)
				}
				continue // refused: nothing has changed
			}
			script = append(script, line)
			if answer == "" {
				continue // nothing is said
			}
			answers = append(answers, answer)
			checkAnswer(t, line, answer)
			if strings.HasPrefix(answer, `["error"`) {
				continue // nothing has changed: two does without it
			}
			went[strings.Split(line, `"`)[1]]++
			if got := does(t, two, loose(line)); got != answer {
				t.Fatalf("%s: %s, and %s", line, answer, got)
			}
		}
		if a, b := asked(t, one), asked(t, two); a != b {
			t.Fatalf("a refused line has changed something: %s, and %s", a, b)
		}
		checkRun(t, s, script, answers)
	}
	for _, o := range orders {
		if went[o.word] == 0 {
			t.Errorf("%s never went well", o.word)
		}
	}
}

// loose is a line with other blanks between its tokens.
func loose(line string) string {
	line = strings.ReplaceAll(line, `",`, "\" \t ,\r\n ")
	return " " + strings.ReplaceAll(line, `{"`, "{ \"") + " "
}

// checkAnswer looks whether an answer is the one form of a list that begins as it must.
func checkAnswer(t *testing.T, line, answer string) {
	t.Helper()
	tree, err := parse.Strict([]byte(answer), api.MaxDepth)
	if err != nil {
		t.Fatalf("%s: %s is no document: %v", line, answer, err)
	}
	first, _ := tree.Root().At(0)
	word, _ := first.Text()
	if tree.Root().Sort() != api.SortList || word != "ok" && word != "error" || word == "error" && tree.Root().Len() != 2 {
		t.Fatalf("%s: %s is no answer", line, answer)
	}
}

// checkRun looks whether a script as a whole, and cut in two, tells what its lines do.
func checkRun(t *testing.T, s scribe, script, answers []string) {
	t.Helper()
	want := strings.Join(answers, "\n") + "\n"
	whole, n, err := desk.Run(strings.Join(script, "\n") + s.of("", "\n"))
	blank := 0
	if len(script) > 0 && script[len(script)-1] == "" {
		blank = 1 // behind the last byte 0A stands no line
	}
	if err != nil || whole != want || n != len(script) && n != len(script)-blank {
		t.Fatalf("Run: %d of %d lines, %v: %s, want %s", n, len(script), err, whole, want)
	}
	cut := s.Intn(len(script) + 1)
	first, _, err := desk.Run(strings.Join(script[:cut], "\n"))
	if err != nil || !strings.HasPrefix(whole, first) {
		t.Fatalf("Run of the first lines: %v: %s", err, first)
	}
	d := desk.New()
	for i, line := range script {
		if answer := does(t, d, line); i >= cut && answer != "" {
			first += answer + "\n"
		}
	}
	if first != whole {
		t.Fatalf("Run in two: %s, want %s", first, whole)
	}
}

func TestTellIsWhatWasSet(t *testing.T) {
	d := desk.New()
	for _, s := range []string{`null`, `[[],{}]`, `{"€":"\u0000\ud83d\ude00","":-1e-7}`, `"` + strings.Repeat("é", 1000) + `"`, `1e21`, strings.Repeat("[", 511) + strings.Repeat("]", 511)} {
		goes(t, d, `["set","a",`+s+`]`)
		want, _ := canon.Bytes(read(t, s))
		tells(t, d, `["tell","a"]`, `["ok",`+string(want)+`]`)
	}
}
