package claims

import (
	"slices"
	"strconv"

	"affidavit/api"
	"affidavit/node"
	"affidavit/pointer"
	"affidavit/utf"
)

// row is what there is to know of a claim: its key, how its value is read and told, and how its field may be.
type row struct {
	key string
	// read reads the value at a pointer into the field, or tells what is wrong with it.
	read func(c *api.Claims, v node.Ref, p string) error
	// tell puts the field's value on a maker's row.
	tell func(c api.Claims, m *node.Maker) error
	// well tells whether the field may be as it is, where the claim is there.
	well func(c api.Claims) bool
	// none tells whether the field is zero.
	none func(c api.Claims) bool
}

// rows are those of all claims, by rising keys.
func rows() []row {
	return []row{
		textRow("about", func(c *api.Claims) *string { return &c.About }),
		timeRow("at", func(c *api.Claims) *int64 { return &c.At }),
		textRow("by", func(c *api.Claims) *string { return &c.By }),
		listRow("for", true, func(c *api.Claims) *[]string { return &c.For }),
		timeRow("from", func(c *api.Claims) *int64 { return &c.From }),
		textRow("id", func(c *api.Claims) *string { return &c.ID }),
		listRow("may", false, func(c *api.Claims) *[]string { return &c.May }),
		timeRow("until", func(c *api.Claims) *int64 { return &c.Until }),
	}
}

// textRow is the row of a claim whose value is a text.
func textRow(key string, field func(*api.Claims) *string) row {
	return row{
		key: key,
		read: func(c *api.Claims, v node.Ref, p string) error {
			s, ok := v.Text()
			if !ok {
				return api.Trail{Err: api.ErrSort, Pointer: p}
			}
			*field(c) = s
			return nil
		},
		tell: func(c api.Claims, m *node.Maker) error { return m.Text(*field(&c)) },
		well: func(c api.Claims) bool { return utf.Right(*field(&c)) },
		none: func(c api.Claims) bool { return *field(&c) == "" },
	}
}

// timeRow is the row of a claim whose value is a time.
func timeRow(key string, field func(*api.Claims) *int64) row {
	return row{
		key: key,
		read: func(c *api.Claims, v node.Ref, p string) error {
			x, ok := v.Number()
			switch {
			case !ok:
				return api.Trail{Err: api.ErrSort, Pointer: p}
			case x < 0 || x > api.MaxTime || x != float64(int64(x)):
				return api.Trail{Err: api.ErrTime, Pointer: p}
			}
			*field(c) = int64(x)
			return nil
		},
		tell: func(c api.Claims, m *node.Maker) error { return m.Number(float64(*field(&c))) },
		well: func(c api.Claims) bool { return isTime(*field(&c)) },
		none: func(c api.Claims) bool { return *field(&c) == 0 },
	}
}

// listRow is the row of a claim whose value is a list of texts, or, if it may be, one text.
func listRow(key string, one bool, field func(*api.Claims) *[]string) row {
	return row{
		key: key,
		read: func(c *api.Claims, v node.Ref, p string) error {
			if s, ok := v.Text(); ok && one {
				*field(c) = []string{s}
				return nil
			}
			l, err := texts(v, p)
			*field(c) = l
			return err
		},
		tell: func(c api.Claims, m *node.Maker) error {
			for _, s := range *field(&c) {
				if err := m.Text(s); err != nil {
					return err
				}
			}
			return m.List(len(*field(&c)))
		},
		well: func(c api.Claims) bool {
			wrong := func(s string) bool { return !utf.Right(s) }
			return !slices.ContainsFunc(*field(&c), wrong) && twice(*field(&c)) < 0
		},
		none: func(c api.Claims) bool { return len(*field(&c)) == 0 },
	}
}

// texts is what must be a list of texts, no two the same.
func texts(v node.Ref, p string) ([]string, error) {
	if v.Sort() != api.SortList {
		return nil, api.Trail{Err: api.ErrSort, Pointer: p}
	}
	var l []string
	for i := range v.Len() {
		inner, _ := v.At(i)
		s, ok := inner.Text()
		if !ok {
			return nil, api.Trail{Err: api.ErrSort, Pointer: below(p, strconv.Itoa(i))}
		}
		l = append(l, s)
	}
	if i := twice(l); i >= 0 {
		return nil, api.Trail{Err: api.ErrTwice, Pointer: below(p, strconv.Itoa(i))}
	}
	return l, nil
}

// below is a pointer with a token more.
func below(p, token string) string {
	s, _ := pointer.Down(p, token) // a key of a claim, or an index
	return s
}

// twice is the place of the first text that stands ahead of it too, -1, if there is none.
func twice(l []string) int {
	places := map[string]int{}
	for i, s := range l {
		if _, ok := places[s]; ok {
			return i
		}
		places[s] = i
	}
	return -1
}

// isTime tells whether a number is a time.
func isTime(n int64) bool { return n >= 0 && n <= api.MaxTime }
