package diff

import "affidavit/node"

// tooMany is how many pairs of values are looked at, at most.
const tooMany = 1 << 20

// kept are the places of the values that two lists keep, rising.
func kept(x, y []node.Ref) [][2]int {
	least := min(len(x), len(y))
	head, tail := 0, 0
	for head < least && x[head].Same(y[head]) {
		head++
	}
	for tail < least-head && x[len(x)-1-tail].Same(y[len(y)-1-tail]) {
		tail++
	}
	var pairs [][2]int
	for i := range head {
		pairs = append(pairs, [2]int{i, i})
	}
	midst := longest(len(x)-head-tail, len(y)-head-tail, func(i, j int) bool { return x[head+i].Same(y[head+j]) })
	for _, pair := range midst {
		pairs = append(pairs, [2]int{head + pair[0], head + pair[1]})
	}
	for k := tail; k > 0; k-- {
		pairs = append(pairs, [2]int{len(x) - k, len(y) - k})
	}
	return pairs
}

// longest is a longest row of pairs of places, the first ones below m, the second ones below n, that are the same, both rising; none, if there are too many to be looked at.
func longest(m, n int, same func(i, j int) bool) [][2]int {
	if m*n == 0 || m*n > tooMany {
		return nil
	}
	// How many pairs there can be from the places i and j on.
	most := make([]int32, (m+1)*(n+1))
	at := func(i, j int) int { return i*(n+1) + j }
	for i := m - 1; i >= 0; i-- {
		for j := n - 1; j >= 0; j-- {
			if same(i, j) {
				most[at(i, j)] = most[at(i+1, j+1)] + 1
			} else {
				most[at(i, j)] = max(most[at(i+1, j)], most[at(i, j+1)])
			}
		}
	}
	var pairs [][2]int
	for i, j := 0, 0; i < m && j < n; {
		switch {
		case same(i, j):
			pairs = append(pairs, [2]int{i, j})
			i, j = i+1, j+1
		case most[at(i+1, j)] >= most[at(i, j+1)]:
			i++
		default:
			j++
		}
	}
	return pairs
}
