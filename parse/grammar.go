package parse

import (
	"bytes"

	"affidavit/api"
	"affidavit/node"
)

// stand is what may come next.
type stand int

const (
	wantsValue   stand = iota // a value
	wantsFirst                // a list's first value, or its end
	wantsMembers              // an object's first key, or its end
	wantsKey                  // a key
	wantsColon                // a colon
	wantsMore                 // a comma, or the end of the list or object
	wantsNothing              // nothing but blanks
)

// open is a list or an object that has begun, and not ended.
type open interface {
	// shut puts it in the place of what is in it.
	shut(m *node.Maker) error
}

// openList is a list, with how many values have ended in it.
type openList struct{ count int }

// openObject is an object, with its keys.
type openObject struct {
	keys []string
	seen map[string]struct{}
}

func (l *openList) shut(m *node.Maker) error   { return m.List(l.count) }
func (o *openObject) shut(m *node.Maker) error { return m.Object(o.keys...) }

// stretch is how many of the bytes may be taken at once: none but the last of them can be the first or the last one of a token.
func (p *Parser) stretch(b []byte) int {
	switch {
	case p.text:
		if i := bytes.IndexByte(b, '"'); i >= 0 {
			return i + 1
		}
		return len(b)
	case p.lexer.Held() == 0:
		return max(1, len(b)-len(bytes.TrimLeft(b, " \t\r\n")))
	}
	return 1
}

// take takes a stretch of bytes.
func (p *Parser) take(b []byte) {
	p.must(p.lexer.Feed(b))
	p.tokens()
	if p.lexer.Held() == 1 {
		p.begin(b[0])
	}
}

// end takes the end.
func (p *Parser) end() {
	p.must(p.lexer.End())
	p.tokens()
	if p.stand != wantsNothing {
		p.fail(api.Spot{Err: api.ErrEnd, At: p.lexer.Place()}, p.lexer.Place())
	}
}

// fail gives up.
func (p *Parser) fail(s api.Spot, place int) {
	p.place = place
	panic(s)
}

// must gives up, if a lexer's call has gone wrong.
func (p *Parser) must(err error) {
	if s, ok := err.(api.Spot); ok {
		if s.Err == api.ErrToken {
			s.Err = api.ErrSyntax
		}
		p.fail(s, p.lexer.Place())
	}
}

// here gives up for the last byte that the lexer took, at that byte.
func (p *Parser) here(no api.Errno) { p.at(no, p.lexer.Place()-1) }

// at gives up for the last byte that the lexer took, at another one.
func (p *Parser) at(no api.Errno, at int) {
	p.fail(api.Spot{Err: no, At: at}, p.lexer.Place()-1)
}

// begin takes the first byte of a token that has more of them.
func (p *Parser) begin(c byte) {
	p.text = c == '"'
	if p.text && (p.stand == wantsKey || p.stand == wantsMembers) {
		return
	}
	p.beginValue()
}

// beginValue takes a value's first byte.
func (p *Parser) beginValue() {
	if p.stand != wantsValue && p.stand != wantsFirst {
		p.here(api.ErrSyntax)
	}
	if len(p.pile) >= p.depth {
		p.here(api.ErrDepth)
	}
	if p.nodes++; p.nodes > api.MaxNodes {
		p.here(api.ErrLong)
	}
}

// tokens takes the tokens that have ended. The maker refuses nothing: what is put is right, and within the limits.
func (p *Parser) tokens() {
	for t, ok := p.lexer.Next(); ok; t, ok = p.lexer.Next() {
		switch x := t.(type) {
		case api.Mark:
			p.mark(x.Sign)
		case api.Str:
			p.said(x)
		case api.Leaf:
			p.put(x.Value())
		}
	}
}

// mark takes a mark.
func (p *Parser) mark(sign byte) {
	switch {
	case sign == '[':
		p.beginValue()
		p.pile = append(p.pile, &openList{})
		p.stand = wantsFirst
	case sign == '{':
		p.beginValue()
		p.pile = append(p.pile, &openObject{seen: map[string]struct{}{}})
		p.stand = wantsMembers
	case sign == ':' && p.stand == wantsColon:
		p.stand = wantsValue
	case sign == ',' && p.stand == wantsMore:
		if p.stand = wantsValue; p.ends('}') {
			p.stand = wantsKey
		}
	case p.ends(sign) && (p.stand == wantsMore || p.stand == wantsFirst || p.stand == wantsMembers):
		last := len(p.pile) - 1
		_ = p.pile[last].shut(p.maker)
		p.pile = p.pile[:last]
		p.ended()
	default:
		p.here(api.ErrSyntax)
	}
}

// ends tells whether the sign is the one with which the innermost list or object ends.
func (p *Parser) ends(sign byte) bool {
	if len(p.pile) == 0 {
		return false
	}
	switch p.pile[len(p.pile)-1].(type) {
	case *openList:
		return sign == ']'
	case *openObject:
		return sign == '}'
	}
	return false
}

// said takes a text that has ended: a key, or a value.
func (p *Parser) said(s api.Str) {
	p.text = false
	p.size += len(s.Text)
	key := p.stand == wantsKey || p.stand == wantsMembers
	if key {
		p.key(s)
	}
	if p.size > api.MaxBytes {
		p.at(api.ErrLong, s.Place())
	}
	if !key {
		p.put(s.Value())
	}
}

// key takes a key.
func (p *Parser) key(s api.Str) {
	o, _ := p.pile[len(p.pile)-1].(*openObject)
	if _, ok := o.seen[s.Text]; ok {
		p.at(api.ErrTwice, s.Place())
	}
	o.seen[s.Text] = struct{}{}
	o.keys = append(o.keys, s.Text)
	p.stand = wantsColon
}

// put puts a value that has no values within it.
func (p *Parser) put(v api.Value) {
	switch x := v.(type) {
	case api.Null:
		_ = p.maker.Null()
	case api.Flag:
		_ = p.maker.Flag(bool(x))
	case api.Number:
		_ = p.maker.Number(float64(x))
	case api.Text:
		_ = p.maker.Text(string(x))
	}
	p.ended()
}

// ended stands behind a value.
func (p *Parser) ended() {
	p.stand = wantsMore
	if len(p.pile) == 0 {
		p.stand = wantsNothing
		return
	}
	if l, ok := p.pile[len(p.pile)-1].(*openList); ok {
		l.count++
	}
}
