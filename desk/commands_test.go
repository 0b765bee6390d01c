package desk_test

import (
	"fmt"
	"strings"
	"testing"

	"affidavit/api"
	"affidavit/base"
	"affidavit/book"
	"affidavit/canon"
	"affidavit/chain"
	"affidavit/claims"
	"affidavit/desk"
	"affidavit/digest"
	"affidavit/envelope"
	"affidavit/node"
	"affidavit/sha"
	"affidavit/veil"
)

// key is the key that the line says whose secret has so many bytes, all of them c.
func key(name string, c byte) api.Key {
	return api.Key{Name: name, Secret: []byte(strings.Repeat(string(rune(c)), 16))}
}

func keyLine(k api.Key) string {
	return fmt.Sprintf(`["key",%q,%q]`, k.Name, base.Hex(k.Secret))
}

func formOf(t testing.TB, tree *node.Tree) string {
	t.Helper()
	b, err := canon.Bytes(tree)
	if err != nil {
		t.Fatal(err)
	}
	return string(b)
}

func hexes(l []api.Digest) string {
	values := make([]string, len(l))
	for i, d := range l {
		values[i] = `"` + base.Digest(d) + `"`
	}
	return "[" + strings.Join(values, ",") + "]"
}

func TestValues(t *testing.T) {
	long := strings.Repeat("n", 64)
	tells(t, desk.New(),
		`["set","`+long+`",{"b":-0.0,"a":"\u20ac"}]`, `["ok"]`,
		`["tell","`+long+`"]`, `["ok",{"a":"€","b":0}]`,
		`["set","`+long+`",[]]`, `["ok"]`,
		`["tell","`+long+`"]`, `["ok",[]]`,
		`["set","a",{"a":[1,null],"b":"x"}]`, `["ok"]`,
		`["read","r"," [1.0e0 , \"\\u0061\"] ",2]`, `["ok"]`,
		`["tell","r"]`, `["ok",[1,"a"]]`,
		`["read","r","[1]",1]`, `["error",[121,1]]`,
		`["read","r","[1]",0]`, `["error",[2]]`,
		`["read","r","[1]",513]`, `["error",[2]]`,
		`["read","r","[1]",9007199254740991]`, `["error",[2]]`,
		`["read","r","{\"a\":1,\"a\":1}",9]`, `["error",[101,7]]`,
		`["read","r","",9]`, `["error",[95,0]]`,
		`["tell","r"]`, `["ok",[1,"a"]]`,
		`["form","r"]`, `["ok","[1,\"a\"]"]`,
		`["size","a"]`, `["ok",5,3,3]`,
		`["find","a",""]`, `["ok",{"a":[1,null],"b":"x"}]`,
		`["find","a","/a/2"]`, `["error",[4,"/a"]]`,
		`["find","a","/~2"]`, `["error",[130,2]]`,
		`["ask","a","/a",9,3]`, `["ok",true,false,5,false]`,
		`["ask","a","/b",1,4]`, `["ok",true,false,4,false]`,
		`["ask","a","/b",5,1]`, `["ok",false,false,0,false]`,
		`["ask","a","/c",11,2]`, `["ok",true,false,0,false]`,
		`["ask","a","",1,5]`, `["error",[2]]`,
		`["all","a",2]`, `["ok",["/a/0","/a/1","/b"]]`,
		`["all","a",1]`, `["ok",["","/a","/a/0","/a/1","/b"]]`,
		`["all","a",11]`, `["ok",[]]`,
		`["all","a",12]`, `["ok",[]]`,
		`["order","a","r"]`, `["ok",1]`,
		`["order","r","a"]`, `["ok",-1]`,
		`["order","a","a"]`, `["ok",0]`,
		`["query","a","$..*"]`, `["ok",["/a","/b","/a/0","/a/1"]]`,
		`["query","a","$.z"]`, `["ok",[]]`,
		`["query","a","$."]`, `["error",[210,2]]`,
		`["query","a","`+strings.Repeat("a", 4097)+`"]`, `["error",[3]]`,
	)
}

func TestChanges(t *testing.T) {
	d := desk.New()
	tells(t, d,
		`["set","a",{"a":[1,2],"b":{"c":null}}]`, `["ok"]`,
		`["patch","p","a",[{"op":"add","path":"/a/-","value":8},{"op":"replace","path":"/b","value":5}]]`, `["ok"]`,
		`["tell","p"]`, `["ok",{"a":[1,2,8],"b":5}]`,
		`["patch","p","a",[{"op":"remove","path":"/a"},{"op":"remove","path":"/a"}]]`, `["error",[4,1]]`,
		`["patch","p","a",[{"op":"put"}]]`, `["error",[170,"/0/op"]]`,
		`["patch","p","a",{}]`, `["error",[5,""]]`,
		`["tell","p"]`, `["ok",{"a":[1,2,8],"b":5}]`,
		`["undo","u","a",[{"op":"add","path":"/a/-","value":8},{"op":"replace","path":"/b","value":5}]]`, `["ok"]`,
		`["tell","u"]`, `["ok",[{"op":"replace","path":"/b","value":{"c":null}},{"op":"remove","path":"/a/2"}]]`,
		`["undo","u","a",[{"op":"test","path":"/b","value":0}]]`, `["error",[173,0]]`,
		`["undo","u","a",1]`, `["error",[5,""]]`,
		`["undo","u","a",[]]`, `["ok"]`,
		`["tell","u"]`, `["ok",[]]`,
		`["set","x",{"a":1,"b":2}]`, `["ok"]`,
		`["set","y",{"b":3,"c":4}]`, `["ok"]`,
		`["diff","o","x","y"]`, `["ok",3]`,
		`["tell","o"]`, `["ok",[{"op":"remove","path":"/a"},{"op":"replace","path":"/b","value":3},{"op":"add","path":"/c","value":4}]]`,
		`["diff","o","x","x"]`, `["ok",0]`,
		`["tell","o"]`, `["ok",[]]`,
		`["set","over",{"a":null,"b":{"d":3}}]`, `["ok"]`,
		`["merge","m","x","over"]`, `["ok"]`,
		`["tell","m"]`, `["ok",{"b":{"d":3}}]`,
		`["merge","m","over","x"]`, `["ok"]`,
		`["tell","m"]`, `["ok",{"a":1,"b":2}]`,
		`["set","three",{"a":3,"b":2}]`, `["ok"]`,
		`["set","four",{"a":4,"b":9}]`, `["ok"]`,
		`["three","m","x","three","four"]`, `["ok",["/a"]]`,
		`["tell","m"]`, `["ok",{"a":3,"b":9}]`,
		`["three","m","x","x","four"]`, `["ok",[]]`,
		`["tell","m"]`, `["ok",{"a":4,"b":9}]`,
		`["set","s",{"need":["a","b"],"others":false,"members":{"a":true}}]`, `["ok"]`,
		`["set","v",{"c":1}]`, `["ok"]`,
		`["shape","v","s"]`, `["error",[[198,"/a"],[198,"/b"],[199,"/c"]]]`,
		`["set","v",{"a":1,"b":2}]`, `["ok"]`,
		`["shape","v","s"]`, `["error",[[199,"/b"]]]`,
		`["shape","v","v"]`, `["error",[190,"/a"]]`,
		`["set","s",{"need":["a"]}]`, `["ok"]`,
		`["shape","v","s"]`, `["ok"]`,
	)
	// Both are as great as may be: what comes of them is not.
	goes(t, d, fmt.Sprintf(`["set","great",{"g":[0%s]}]`, strings.Repeat(",0", 40000)), fmt.Sprintf(`["set","other",{"h":[0%s]}]`, strings.Repeat(",0", 40000)))
	tells(t, d, `["merge","n","great","other"]`, `["error",[3]]`, `["three","n","a","great","other"]`, `["error",[3]]`, `["patch","n","great",[{"op":"copy","path":"/h","from":"/g"}]]`, `["error",[3,0]]`, `["undo","n","great",[{"op":"remove","path":"/g"},{"op":"add","path":"/g","value":1},{"op":"remove","path":"/g"}]]`, `["ok"]`, `["undo","n","great",[{"op":"replace","path":"","value":1},{"op":"replace","path":"","value":2}]]`, `["ok"]`, `["tell","h"]`, `["error",[321]]`)
	goes(t, d, fmt.Sprintf(`["set","text",["%s"]]`, strings.Repeat("x", api.MaxBytes-60)))
	tells(t, d, `["undo","u","text",[{"op":"remove","path":"/0"}]]`, `["ok"]`, `["undo","u","text",[{"op":"remove","path":"/0"},{"op":"add","path":"/0","value":"`+strings.Repeat("y", 40)+`"},{"op":"remove","path":"/0"}]]`, `["error",[3,2]]`, `["diff","u","a","text"]`, `["ok",1]`)
}

func TestVeils(t *testing.T) {
	d := desk.New()
	salt, other := strings.Repeat("00", 16), strings.Repeat("01", 17)
	goes(t, d, `["set","a",{"a":1,"b":[2,3]}]`)
	tells(t, d, fmt.Sprintf(`["hide","h","o","a",[["/b/0","%s"],["/b","%s"]]]`, salt, other), `["ok"]`)
	parts := []api.Part{{Pointer: "/b/0", Salt: make([]byte, 16)}, {Pointer: "/b", Salt: []byte(strings.Repeat("\x01", 17))}}
	hidden, openings, err := veil.Hide(read(t, `{"a":1,"b":[2,3]}`), parts)
	if err != nil {
		t.Fatal(err)
	}
	inner, _ := node.Build(openings[1].Steps)
	told := fmt.Sprintf(`[["%s",2],["%s",%s]]`, salt, other, formOf(t, inner))
	back := fmt.Sprintf(`[["%s",%s],["%s",2]]`, other, formOf(t, inner), salt)
	tells(t, d,
		`["tell","h"]`, `["ok",`+formOf(t, hidden)+`]`,
		`["tell","o"]`, `["ok",`+told+`]`,
		`["hidden","h"]`, `["ok",["/b"]]`,
		`["hidden","a"]`, `["ok",[]]`,
		`["open","x","h",`+back+`]`, `["ok"]`,
		`["tell","x"]`, `["ok",{"a":1,"b":[2,3]}]`,
		`["open","x","h",`+told+`]`, `["error",[4,0]]`,
		`["open","y","h",[["00",1]]]`, `["error",[230,0]]`,
		`["open","y","h",[["`+salt+`",`+formOf(t, hidden)+`],["`+salt+`",{"~":"`+strings.Repeat("A", 43)+`"}]]]`, `["error",[4,0]]`,
		`["open","y","h",[["`+salt+`",{"~":"`+strings.Repeat("A", 43)+`"}]]]`, `["error",[232,0]]`,
		`["tell","x"]`, `["ok",{"a":1,"b":[2,3]}]`,
		`["tell","y"]`, `["error",[321]]`,
		`["hide","x","y","a",[["/a","`+salt+`"],["/a","`+salt+`"]]]`, `["error",[231,1]]`,
		`["hide","x","y","a",[["/a","00"]]]`, `["error",[230,0]]`,
		`["hide","x","y","a",[["/z","`+salt+`"]]]`, `["error",[4,0]]`,
		`["hide","x","y","a",[["a","`+salt+`"]]]`, `["error",[2,0]]`,
		`["tell","x"]`, `["ok",{"a":1,"b":[2,3]}]`,
		`["hide","a","y","a",[]]`, `["ok"]`,
		`["tell","y"]`, `["ok",[]]`,
		`["tell","a"]`, `["ok",{"a":1,"b":[2,3]}]`,
		`["hide","a","a","a",[["/a","`+salt+`"]]]`, `["ok"]`,
		`["tell","a"]`, `["ok",[["`+salt+`",1]]]`,
	)
}

func TestVeilsTooDeep(t *testing.T) {
	d := desk.New()
	salt := strings.Repeat("00", 16)
	deep := func(n int) string { return strings.Repeat("[", n) + strings.Repeat("]", n) }
	goes(t, d, `["set","x",1]`, `["set","y",2]`)
	for n, want := range map[int]string{510: `["ok"]`, 511: `["error",[3]]`, 512: `["error",[3]]`} {
		goes(t, d, fmt.Sprintf(`["read","a",%q,512]`, deep(n)))
		tells(t, d, `["hide","h","o","a",[["","`+salt+`"]]]`, want, `["hidden","h"]`, map[bool]string{true: `["ok",[""]]`, false: `["error",[321]]`}[n == 510])
		d = desk.New()
	}
	goes(t, d, fmt.Sprintf(`["set","a",["%s"]]`, strings.Repeat("x", api.MaxBytes-31)))
	tells(t, d, `["hide","h","o","a",[["/0","`+salt+`"]]]`, `["error",[3]]`, `["tell","h"]`, `["error",[321]]`, `["tell","o"]`, `["error",[321]]`)
	goes(t, d, fmt.Sprintf(`["set","a",["%s"]]`, strings.Repeat("x", api.MaxBytes-32)))
	tells(t, d, `["hide","h","o","a",[["/0","`+salt+`"]]]`, `["ok"]`)
	goes(t, d, `["read","a",`+quote(t, strings.Repeat("[", 511)+"1"+strings.Repeat("]", 511))+`,512]`)
	whole := behind(t, d, `["tell","a"]`)
	if len(whole) != 1023 {
		t.Errorf("tell of what is as deep as may be: %d bytes", len(whole))
	}
	goes(t, d, `["prove","p","a","`+strings.Repeat("/0", 511)+`"]`)
}

func TestProofs(t *testing.T) {
	d := desk.New()
	value := `{"a":[1,2,3],"b":"x"}`
	goes(t, d, `["set","v",`+value+`]`, `["set","one",2]`)
	tree := read(t, value)
	root, _ := digest.Of(tree)
	p, err := digest.Prove(tree, "/a/1")
	if err != nil {
		t.Fatal(err)
	}
	var levels []string
	for _, l := range p.Levels {
		levels = append(levels, fmt.Sprintf("[%d,%d,%d,%s]", l.Sort, l.Count, l.At, hexes(l.Sides)))
	}
	proof, r := "["+strings.Join(levels, ",")+"]", `"`+base.Digest(root)+`"`
	tells(t, d,
		`["root","v"]`, `["ok",`+r+`]`,
		`["prove","p","v","/a/1"]`, `["ok"]`,
		`["tell","p"]`, `["ok",`+proof+`]`,
		`["check",`+r+`,"/a/1","one",`+proof+`]`, `["ok"]`,
		`["check",`+r+`,"/a/1","v",`+proof+`]`, `["error",[220]]`,
		`["check",`+r+`,"/a/2","one",`+proof+`]`, `["error",[221,0]]`,
		`["check",`+r+`,"/a/1","one",[]]`, `["error",[221,2]]`,
		`["check",`+r+`,"a","one",[]]`, `["error",[130,0]]`,
		`["check",`+r+`,"","v",[]]`, `["ok"]`,
		`["check",`+r+`,"/a/1","one",[[9007199254740991,1,0,[]]]]`, `["error",[221,0]]`,
		`["prove","p","v","/a/3"]`, `["error",[4,"/a"]]`,
		`["prove","p","v","x"]`, `["error",[130,0]]`,
		`["tell","p"]`, `["ok",`+proof+`]`,
		`["prove","p","v",""]`, `["ok"]`,
		`["tell","p"]`, `["ok",[]]`,
	)
}

func TestKeys(t *testing.T) {
	d := desk.New()
	name := func(n int) string { return strings.Repeat("n", n) }
	bytes := func(n int) string { return strings.Repeat("ab", n) }
	tells(t, d,
		`["key","","`+bytes(16)+`"]`, `["error",[2]]`,
		`["key","`+name(65)+`","`+bytes(16)+`"]`, `["error",[2]]`,
		`["key","k","`+bytes(15)+`"]`, `["error",[2]]`,
		`["key","k","`+bytes(4097)+`"]`, `["error",[2]]`,
		`["key","k",""]`, `["error",[2]]`,
		`["set","a",1]`, `["ok"]`,
		`["seal","e","a","t",["k"]]`, `["error",[321]]`,
		`["key","`+name(64)+`","`+bytes(4096)+`"]`, `["ok"]`,
		`["key","k","`+bytes(16)+`"]`, `["ok"]`,
		`["seal","e","a","t",["k"]]`, `["ok"]`,
		`["key","k","`+bytes(17)+`"]`, `["ok"]`,
		`["unseal","u","e",1,["k"]]`, `["ok",["false",[],["k"]]]`,
		`["tell","u"]`, `["error",[321]]`,
	)
	for i := range api.MaxKeys - 2 {
		goes(t, d, fmt.Sprintf(`["key","%d","%s"]`, i, bytes(16)))
	}
	goes(t, d, `["set","c",{"about":"new","by":"k","may":[]}]`, `["set","old",{"about":"0","by":"k","may":[]}]`)
	tells(t, d,
		`["key","more","`+bytes(16)+`"]`, `["error",[3]]`,
		`["key","more","`+bytes(15)+`"]`, `["error",[2]]`,
		`["key","k","`+bytes(16)+`"]`, `["ok"]`,
		`["unseal","u","e",1,["k"]]`, `["ok",["trusted",["k"]]]`,
		`["tell","u"]`, `["ok",1]`,
		`["grant","g","k","c"]`, `["error",[3]]`,
		`["tell","g"]`, `["error",[321]]`,
		`["grant","g","k","old"]`, `["ok","0"]`,
	)
}

func TestSeals(t *testing.T) {
	d := desk.New()
	k, l := key("k", 0), key("l", 1)
	goes(t, d, keyLine(k), keyLine(l), keyLine(key("m", 2)), `["set","a",{"a":1}]`)
	b, err := envelope.Seal(read(t, `{"a":1}`), "t", []api.Key{l, k})
	if err != nil {
		t.Fatal(err)
	}
	tells(t, d,
		`["seal","e","a","t",["l","k"]]`, `["ok"]`,
		`["tell","e"]`, `["ok",`+string(b)+`]`,
		`["seal","x","a","",["k"]]`, `["error",[2]]`,
		`["seal","x","a","t",[]]`, `["error",[2]]`,
		`["seal","x","a","t",["k","k"]]`, `["error",[2]]`,
		`["tell","x"]`, `["error",[321]]`,
		`["unseal","u","e",2,["k"]]`, `["ok",["weak",["k"],2]]`,
		`["unseal","u","e",1,[]]`, `["ok",["weak",[],1]]`,
		`["tell","u"]`, `["error",[321]]`,
		`["unseal","u","e",2,["k","l","m"]]`, `["ok",["trusted",["k","l"]]]`,
		`["tell","u"]`, `["ok",{"a":1}]`,
		`["unseal","u","e",0,["k"]]`, `["error",[2]]`,
		`["unseal","u","e",65,["k"]]`, `["error",[2]]`,
		`["unseal","u","e",1,["k","k"]]`, `["error",[2]]`,
		`["unseal","u","a",1,["k"]]`, `["error",[240,""]]`,
		keyLine(key("k", 3)), `["ok"]`,
		`["unseal","a","e",1,["k","l"]]`, `["ok",["false",["l"],["k"]]]`,
		`["tell","a"]`, `["ok",{"a":1}]`,
	)
	goes(t, d, `["read","deep","`+strings.Repeat("[", 511)+strings.Repeat("]", 511)+`",512]`, `["seal","deep","deep","t",["m"]]`, `["unseal","deep","deep",1,["m"]]`, fmt.Sprintf(`["set","long","%s"]`, strings.Repeat("x", api.MaxBytes*3/4)))
	tells(t, d, `["seal","long","long","t",["k"]]`, `["error",[3]]`)
}

func TestVerdicts(t *testing.T) {
	d := desk.New()
	for _, c := range []struct{ value, rules, want string }{
		{`{}`, `{}`, `["holds",-1]`},
		{`{"until":9}`, `{"now":3}`, `["holds",9]`},
		{`{"at":5,"from":3}`, `{"now":3,"slack":1}`, `["early",5]`},
		{`{"until":9}`, `{"slack":1,"now":10}`, `["over",9]`},
		{`{}`, `{"need":["z","by"]}`, `["lacks","z"]`},
		{`{"by":"€"}`, `{"by":["a","b"]}`, `["alien","€"]`},
		{`{}`, `{"by":["a","b"]}`, `["alien",""]`},
		{`{"for":["x","y"]}`, `{"who":"z"}`, `["other",["x","y"]]`},
		{`{"for":"x"}`, `{"who":"x"}`, `["holds",-1]`},
		{`{"may":["x"]}`, `{"may":["y","x","\"","y"]}`, `["barred",["y","\""]]`},
		{`{"may":["x"]}`, `{"may":["x"],"now":9007199254740991,"slack":9007199254740991}`, `["holds",-1]`},
		{`1`, `{}`, `["broken",[5,""]]`},
		{`{"at":-1,"by":1}`, `{}`, `["broken",[[250,"/at"],[5,"/by"]]]`},
	} {
		goes(t, d, `["set","a",`+c.value+`]`)
		tells(t, d, `["judge","a",`+c.rules+`]`, `["ok",`+c.want+`]`)
	}
}

func TestStandings(t *testing.T) {
	d := desk.New()
	root := key("R", 0)
	goes(t, d, keyLine(root), `["set","one",{"about":"a","by":"R","may":["x","y"],"until":100}]`, `["set","two",{"about":"b","by":"a","may":["x"],"until":50}]`, `["set","wide",{"about":"b","by":"a","may":["x"],"until":200}]`, `["set","v",{"v":1}]`)
	tells(t, d, `["grant","g","R","one"]`, `["ok","a"]`, `["grant","h","a","two"]`, `["ok","b"]`, `["seal","s","v","x",["b"]]`, `["ok"]`, `["seal","t","v","y",["b"]]`, `["ok"]`)
	c, err := claims.Read(read(t, `{"about":"a","by":"R","may":["x","y"],"until":100}`))
	if err != nil {
		t.Fatal(err)
	}
	g, a, err := chain.Grant(root, c)
	if err != nil {
		t.Fatal(err)
	}
	sealed, _ := envelope.Seal(read(t, `{"v":1}`), "x", []api.Key{a})
	tells(t, d, `["tell","g"]`, `["ok",`+string(g)+`]`, `["seal","q","v","x",["a"]]`, `["ok"]`, `["tell","q"]`, `["ok",`+string(sealed)+`]`)
	tells(t, d,
		`["verify","n",["g","h"],"t",["R"],{"now":10}]`, `["ok",["fails",2,["barred",["y"]]]]`,
		`["verify","n",["g","h"],"s",["R"],{"now":60}]`, `["ok",["fails",1,["over",50]]]`,
		`["verify","n",["h"],"s",["R"],{}]`, `["ok",["doubts",0,["weak",[],1]]]`,
		`["verify","n",["g","s"],"s",["R"],{}]`, `["ok",["doubts",1,["weak",[],1]]]`,
		`["verify","n",["g","q"],"s",["R"],{}]`, `["ok",["breaks",1,[290]]]`,
		`["verify","n",["v"],"s",["R"],{}]`, `["ok",["breaks",0,[240,""]]]`,
		`["tell","n"]`, `["error",[321]]`,
		`["verify","n",["g","h"],"s",["R"],{"now":10}]`, `["ok",["stands",2,["b"],50]]`,
		`["tell","n"]`, `["ok",{"v":1}]`,
		`["verify","n",["g","h"],"s",["R","R"],{"now":10}]`, `["error",[2]]`,
		`["verify","n",[`+strings.Repeat(`"g",`, 32)+`"g"],"s",["R"],{"now":10}]`, `["error",[3]]`,
		`["verify","n",[`+strings.Repeat(`"g",`, 31)+`"g"],"s",["R"],{"now":10}]`, `["ok",["doubts",1,["weak",[],1]]]`,
		`["verify","n",["g","h"],"s",["R"],{"now":10,"need":["id"]}]`, `["ok",["fails",0,["lacks","id"]]]`,
		`["seal","r","v","z",["R"]]`, `["ok"]`,
		`["verify","n",[],"r",["R"],{"may":["z"]}]`, `["ok",["stands",0,["R"],-1]]`,
		`["grant","w","a","wide"]`, `["ok","b"]`,
		`["seal","s","v","x",["b"]]`, `["ok"]`,
		`["verify","n",["g","w"],"s",["R"],{"now":10}]`, `["ok",["breaks",1,[[251,"/until"]]]]`,
		`["grant","w","R","two"]`, `["error",[2]]`,
		`["grant","w","R","v"]`, `["error",[2]]`,
		`["set","bad",{"about":1,"by":2}]`, `["ok"]`,
		`["grant","w","R","bad"]`, `["error",[[5,"/about"],[5,"/by"]]]`,
		`["set","bad",[]]`, `["ok"]`,
		`["grant","w","R","bad"]`, `["error",[5,""]]`,
	)
}

func TestBookAndStore(t *testing.T) {
	d, b := desk.New(), book.New()
	for i, s := range []string{`{"b": 1, "a": 2}`, `[1.0]`, `null`} {
		goes(t, d, `["set","a",`+s+`]`)
		tells(t, d, `["enter","a"]`, fmt.Sprintf(`["ok",%d]`, i))
		if _, err := b.Append([]byte(form(t, s))); err != nil {
			t.Fatal(err)
		}
	}
	for n := range 5 {
		for m := range 5 {
			for word, of := range map[string]func(int, int) ([]api.Digest, error){"stands": b.Stands, "grew": b.Grew} {
				proof, err := of(m, n)
				want := `["ok",` + hexes(proof) + `]`
				if err != nil {
					want = `["error",[2]]`
				}
				tells(t, d, fmt.Sprintf(`["%s",%d,%d]`, word, m, n), want)
			}
		}
	}
	sum := sha.Sum([]byte(`{"a":2,"b":1}`))
	at := `"` + base.Digest(sum) + `"`
	tells(t, d,
		`["get","x",`+at+`]`, `["error",[4]]`,
		`["tell","x"]`, `["error",[321]]`,
		`["set","a",{"b": 1, "a": 2}]`, `["ok"]`,
		`["put","a"]`, `["ok",`+at+`]`,
		`["put","a"]`, `["ok",`+at+`]`,
		`["set","a",1]`, `["ok"]`,
		`["get","x",`+at+`]`, `["ok"]`,
		`["tell","x"]`, `["ok",{"a":2,"b":1}]`,
	)
	goes(t, d, fmt.Sprintf(`["set","great","%s"]`, strings.Repeat("x", 1<<20-1)))
	tells(t, d, `["enter","great"]`, `["error",[3]]`)
	for i := range 16 {
		goes(t, d, fmt.Sprintf(`["set","great","%d%s"]`, i%10, strings.Repeat("x", 1<<20-3-i/10)))
		tells(t, d, `["enter","great"]`, map[bool]string{true: fmt.Sprintf(`["ok",%d]`, 3+i), false: `["error",[3]]`}[i < 15])
		got := does(t, d, `["put","great"]`)
		if i < 15 != strings.HasPrefix(got, `["ok"`) || i == 15 && got != `["error",[281]]` {
			t.Errorf("put of text %d: %s", i, got)
		}
	}
}

func TestLedger(t *testing.T) {
	d := desk.New()
	goes(t, d, keyLine(key("k", 0)), keyLine(key("w", 1)), keyLine(key("x", 2)), keyLine(key("v", 3)))
	for name, s := range map[string]string{"one": `{"a":1}`, "two": `{"until":7}`, "three": `1`} {
		goes(t, d, fmt.Sprintf(`["set","%s",%s]`, name, s), fmt.Sprintf(`["seal","s %s","%s","t",["k"]]`, name, name))
	}
	goes(t, d, `["seal","other kind","one","u",["k"]]`, `["seal","other key","one","t",["x"]]`)
	doc, second := sha.Sum([]byte(`{"a":1}`)), sha.Sum([]byte(`{"until":7}`))
	first := `["receipt","` + base.Digest(doc) + `"]`
	tells(t, d,
		`["charter","o","w",["k","w"],"t",{}]`, `["error",[2]]`,
		`["charter","o","w",["k"],"head",{}]`, `["error",[2]]`,
		`["charter","","w",["k"],"t",{}]`, `["error",[2]]`,
		`["charter","t","w",["k"],"o",{}]`, `["ok"]`,
		`["submit",[],"s one",5]`, `["ok",["doubted",["fails",0,["barred",["t"]]]]]`,
		`["charter","o","w",["k"],"t",{"now":1,"may":["x"]}]`, `["ok"]`,
		first, `["error",[4]]`,
		`["submit",[],"s one",5]`, `["ok",["entered",0,5]]`,
		`["submit",[],"s one",9]`, `["ok",["known",0,5]]`,
		first, `["ok",0,5,[]]`,
		`["submit",[],"other kind",9]`, `["ok",["doubted",["fails",0,["barred",["u"]]]]]`,
		`["submit",[],"other key",9]`, `["ok",["doubted",["doubts",0,["weak",[],1]]]]`,
		`["submit",["s one"],"s one",9]`, `["ok",["doubted",["breaks",0,[290]]]]`,
		`["submit",[],"s two",9]`, `["ok",["declined",["over",7]]]`,
		`["submit",[],"s two",4]`, `["error",[2]]`,
		`["submit",[`+strings.Repeat(`"one",`, 32)+`"one"],"s two",4]`, `["error",[2]]`,
		`["submit",[`+strings.Repeat(`"one",`, 32)+`"one"],"s two",6]`, `["error",[3]]`,
		`["submit",[],"s three",6]`, `["ok",["declined",["broken",[5,""]]]]`,
		`["submit",[],"s two",6]`, `["ok",["entered",1,6]]`,
	)
	show := func(wants ...string) {
		t.Helper()
		for _, want := range wants {
			tells(t, d, `["show"]`, want)
		}
	}
	show(`["error",[4]]`)
	tells(t, d, `["witness","w",["w"]]`, `["error",[2]]`, `["witness","v",[]]`, `["error",[2]]`, `["witness","v",["x"]]`, `["ok"]`)
	show(`["error",[302]]`)
	goes(t, d, `["witness","v",["w"]]`)
	show(`["ok",["fresh","o",2]]`, `["ok",["again","o",2]]`)
	b := book.New()
	for i, docs := range []api.Digest{doc, second} {
		value, _ := digest.Of(read(t, []string{`{"a":1}`, `{"until":7}`}[i]))
		row := ""
		for _, part := range []string{"affidavit entry", string(docs[:]), string(value[:]), fmt.Sprint(i), fmt.Sprint(5 + i)} {
			row += fmt.Sprintf("%d %s ", len(part), part)
		}
		if _, err := b.Append([]byte(row)); err != nil {
			t.Fatal(err)
		}
	}
	proof, _ := b.Stands(0, 2)
	tells(t, d, first, `["ok",0,5,`+hexes(proof)+`]`)
	// Another ledger of that origin, shown to that witness.
	empty := book.Empty()
	have, _ := b.Root(2)
	tells(t, d, `["charter","o","w",["k"],"t",{}]`, `["ok"]`, first, `["error",[4]]`)
	show(`["ok",["stale","o",0,2]]`)
	tells(t, d, `["submit",[],"s two",6]`, `["ok",["entered",0,6]]`, `["submit",[],"s one",6]`, `["ok",["entered",1,6]]`)
	got := behind(t, d, `["show"]`)
	if !strings.HasPrefix(got, `["split","o",2,"`) || !strings.HasSuffix(got, `","`+base.Digest(have)+`"]`) || len(got) != len(`["split","o",2,"",""]`)+128 || have == empty {
		t.Errorf("show of another ledger: %s", got)
	}
	goes(t, d, `["set","four",{"four":4}]`, `["seal","s four","four","t",["k"]]`)
	tells(t, d, `["submit",[],"s four",6]`, `["ok",["entered",2,6]]`)
	show(`["ok",["unproved","o",[271]]]`)
	goes(t, d, `["witness","v",["w"]]`)
	show(`["ok",["fresh","o",3]]`)
	goes(t, d, `["set","five",{"five":5}]`, `["seal","s five","five","t",["k"]]`)
	tells(t, d, `["submit",[],"s five",6]`, `["ok",["entered",3,6]]`)
	show(`["ok",["grown","o",3,4]]`)
}

func TestFullLedger(t *testing.T) {
	d := desk.New()
	goes(t, d, keyLine(key("k", 0)), keyLine(key("w", 1)), `["charter","o","w",["k"],"t",{}]`)
	for i := range 17 {
		goes(t, d, fmt.Sprintf(`["set","a",{"%02d":"%s"}]`, i, strings.Repeat("x", 1<<20-9)), `["seal","s","a","t",["k"]]`)
		want := fmt.Sprintf(`["ok",["entered",%d,1]]`, i)
		if i == 16 {
			want = `["ok",["full",[281]]]`
		}
		tells(t, d, `["submit",[],"s",1]`, want)
	}
}

func TestRulesOfCharter(t *testing.T) {
	d := desk.New()
	goes(t, d, keyLine(key("k", 0)), keyLine(key("w", 1)), `["charter","o","w",["k"],"t",{"slack":2,"who":"me","by":["k"],"need":["id"]}]`)
	for _, c := range []string{`{"by":"k"}`, `["declined",["lacks","id"]]`, `{"id":"1","by":"x"}`, `["declined",["alien","x"]]`, `{"id":"1","by":"k","for":"you"}`, `["declined",["other",["you"]]]`, `{"id":"1","by":"k","at":8}`, `["declined",["early",8]]`, `{"id":"1","by":"k","at":7,"until":4}`, `["entered",0,5]`} {
		if c[0] == '{' {
			goes(t, d, `["set","a",`+c+`]`, `["seal","s","a","t",["k"]]`)
		} else {
			tells(t, d, `["submit",[],"s",5]`, `["ok",`+c+`]`)
		}
	}
}
