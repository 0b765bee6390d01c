package patch

import (
	"slices"
	"strconv"
	"strings"

	"affidavit/api"
	"affidavit/node"
	"affidavit/order"
	"affidavit/pointer"
)

// doers are what is done with an operation, each at its kind's place.
func (w *work) doers() []func(request) {
	return []func(request){
		api.OpAdd:     w.doAdd,
		api.OpRemove:  w.doRemove,
		api.OpReplace: w.doReplace,
		api.OpMove:    w.doMove,
		api.OpCopy:    w.doCopy,
		api.OpTest:    w.doTest,
	}
}

func (w *work) doAdd(o request) { w.add(o, o.value) }

func (w *work) doRemove(o request) {
	need(o.Path != "", api.ErrEmpty)
	w.take(o.Path, o.path)
}

func (w *work) doReplace(o request) {
	was, ok := w.look(o.path)
	need(ok, api.ErrNone)
	w.replace(o.path, o.value)
	w.count(o.value, was)
	w.fits(o.path, o.value)
	w.undo = append(w.undo, undo{api.OpReplace, o.Path, was})
}

func (w *work) doMove(o request) {
	need(!strings.HasPrefix(o.Path, o.From+"/"), api.ErrInto)
	if o.Path == o.From {
		_, ok := w.look(o.from)
		need(ok, api.ErrNone)
		return
	}
	w.add(o, w.take(o.From, o.from))
}

func (w *work) doCopy(o request) {
	r, ok := w.look(o.from)
	need(ok, api.ErrNone)
	w.add(o, r)
}

func (w *work) doTest(o request) {
	r, ok := w.look(o.path)
	need(ok, api.ErrNone)
	need(order.Compare(r, o.value) == 0, api.ErrTest)
}

// take takes what stands at a path, which is not empty.
func (w *work) take(path string, tokens []string) node.Ref {
	r, ok := w.look(tokens)
	need(ok, api.ErrNone)
	last := len(tokens) - 1
	parent, _ := w.reach(tokens[:last])
	switch x := parent.(type) {
	case *row:
		i, _ := pointer.Index(tokens[last], len(x.items))
		x.items = slices.Delete(x.items, i, i+1)
	case *members:
		delete(x.at, tokens[last])
		w.bytes -= len(tokens[last])
	}
	w.count(node.Ref{}, r)
	w.undo = append(w.undo, undo{api.OpAdd, path, r})
	return r
}

// add adds a value at an operation's path.
func (w *work) add(o request, r node.Ref) {
	was, back := w.place(o, r)
	back.kind = api.OpRemove
	if was.Sort() != 0 {
		back.kind, back.value = api.OpReplace, was
	}
	w.undo = append(w.undo, back)
	w.count(r, was)
	w.fits(o.path, r)
}

// place puts a value at an operation's path; it tells the value whose place it took, if there was one, and the path with the index that it has.
func (w *work) place(o request, r node.Ref) (node.Ref, undo) {
	back := undo{path: o.Path}
	if len(o.path) == 0 {
		was := seal(w.root)
		w.root = still{r}
		return was, back
	}
	up, token := o.path[:len(o.path)-1], o.path[len(o.path)-1]
	parent, ok := w.reach(up)
	need(ok, api.ErrNone)
	switch x := parent.(type) {
	case *row:
		i := slot(token, len(x.items))
		x.items = slices.Insert(x.items, i, part(still{r}))
		back.path = o.Path[:len(o.Path)-len(token)] + strconv.Itoa(i)
		return node.Ref{}, back
	case *members:
		var was node.Ref
		if old, ok := x.at[token]; ok {
			was = seal(old)
		} else {
			w.bytes += len(token)
		}
		x.at[token] = still{r}
		return was, back
	}
	panic(fault(api.ErrSort))
}

// slot is the place in a list of n values that a token is, for a value that comes.
func slot(token string, n int) int {
	if token == "-" {
		return n
	}
	need(isIndex(token), api.ErrSlot)
	i, ok := pointer.Index(token, n+1)
	need(ok, api.ErrNone)
	return i
}

// isIndex tells whether a token is the index of some list.
func isIndex(token string) bool {
	if token == "" || token[0] == '0' && token != "0" {
		return false
	}
	return strings.Trim(token, "0123456789") == ""
}
