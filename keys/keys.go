// Package keys puts texts in unit order, and the keys of several objects together; layers that tell texts rising share it.
package keys

import (
	"slices"

	"affidavit/node"
	"affidavit/utf"
)

// Ahead tells whether a stands ahead of b.
func Ahead(a, b string) bool { return utf.Compare(a, b) < 0 }

// Sorted is texts, rising, in new memory.
func Sorted(texts []string) []string { return slices.SortedFunc(slices.Values(texts), utf.Compare) }

// Union is the keys that one of some objects has, rising, each once. What is no object has none.
func Union(objects ...node.Ref) []string {
	var all []string
	for _, o := range objects {
		all = merge(all, of(o))
	}
	return all
}

// of are the keys of an object, rising.
func of(r node.Ref) []string {
	var l []string
	for i := range r.Len() {
		if key, ok := r.Key(i); ok {
			l = append(l, key)
		}
	}
	return l
}

// merge is two rows that rise, as one that rises, in which no text stands twice.
func merge(a, b []string) []string {
	l := make([]string, 0, len(a)+len(b))
	for len(a) > 0 && len(b) > 0 {
		c := utf.Compare(a[0], b[0])
		next := a[0]
		if c > 0 {
			next = b[0]
		}
		if c <= 0 {
			a = a[1:]
		}
		if c >= 0 {
			b = b[1:]
		}
		l = append(l, next)
	}
	return append(append(l, a...), b...)
}
