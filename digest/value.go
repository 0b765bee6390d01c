package digest

import (
	"math"

	"affidavit/api"
	"affidavit/hmac"
	"affidavit/node"
)

// value is the digest of a value as it is told.
func value(v api.Value, take taker) api.Digest {
	switch x := v.(type) {
	case api.Flag:
		if x {
			return take([]byte(ofTrue))
		}
		return take([]byte(ofFalse))
	case api.Number:
		return take([]byte(ofNumber), eight(math.Float64bits(float64(x))))
	case api.Text:
		return take([]byte(ofText), []byte(x))
	case api.List:
		l := make([]api.Digest, 0, len(x))
		for _, inner := range x {
			l = append(l, value(inner, take))
		}
		return group(ofList, l, take)
	case api.Object:
		l := make([]api.Digest, 0, len(x))
		for _, m := range x {
			l = append(l, member(m.Key, value(m.Value, take), take))
		}
		return group(ofObject, l, take)
	}
	return take([]byte(ofNull))
}

// group is the digest of a list or an object whose row has these digests.
func group(word string, l []api.Digest, take taker) api.Digest {
	return whole(word, len(l), row(l, take), take)
}

// whole is the digest of a list or an object with so many values, whose row has this digest.
func whole(word string, n int, row api.Digest, take taker) api.Digest {
	return take([]byte(word), eight(uint64(n)), row[:])
}

// member is the digest of an object's member, whose value has this digest.
func member(key string, d api.Digest, take taker) api.Digest {
	return take([]byte(ofMember), hmac.Row([]byte(key)), d[:])
}

// of is the digest of a value within a tree.
func of(r node.Ref) api.Digest { return value(r.Value(), take) }

// values are the digests of the values straight within a list or an object; of the one at a place it is known.
func values(r node.Ref, at int, known api.Digest) []api.Digest {
	l := make([]api.Digest, 0, r.Len())
	for _, inner := range r.All() {
		if len(l) == at {
			l = append(l, known)
			continue
		}
		l = append(l, of(inner))
	}
	return l
}

// rowOf are the digests of the row of a list or an object, whose values have these digests.
func rowOf(r node.Ref, values []api.Digest) []api.Digest {
	l := make([]api.Digest, 0, len(values))
	for i, d := range values {
		key, _ := r.Key(i)
		l = append(l, placed(r.Sort(), key, d))
	}
	return l
}

// placed is the digest that stands in the row of a list or an object for a value with this digest.
func placed(s api.Sort, key string, d api.Digest) api.Digest {
	if s == api.SortObject {
		return member(key, d, take)
	}
	return d
}

// wordOf is the byte with which the text of a list or an object begins.
func wordOf(s api.Sort) string {
	if s == api.SortObject {
		return ofObject
	}
	return ofList
}
