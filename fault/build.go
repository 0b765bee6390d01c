// Package fault makes errors step by step, looks at them by assertions, finds them within one another, and holds them against one another.
package fault

import (
	"slices"

	"affidavit/api"
)

// A laid is an error on the pile, and how deep it is.
type laid struct {
	error
	depth int
}

// pile is what steps are done to.
type pile []laid

// Build makes an error, step by step; the second error is told where that may not be.
func Build(steps []api.Cause) (error, error) {
	if len(steps) > api.MaxSteps {
		return nil, api.Spot{Err: api.ErrLong, At: api.MaxSteps}
	}
	var p pile
	for i, step := range steps {
		if no := p.do(step); no != api.OK {
			return nil, api.Spot{Err: no, At: i}
		}
	}
	if len(p) != 1 {
		return nil, api.Spot{Err: api.ErrPile, At: len(steps)}
	}
	return p[0].error, nil
}

// do does a step, or tells why it may not be done.
func (p *pile) do(step api.Cause) api.Errno {
	taken := 0
	switch step.Kind {
	case api.CauseNote:
		taken = 1
	case api.CauseAll:
		taken = step.Count
	}
	if taken < 0 || taken > len(*p) {
		return api.ErrCause
	}
	rest := len(*p) - taken
	next, ok := made(step, (*p)[rest:])
	switch {
	case !ok:
		return api.ErrCause
	case next.depth > api.MaxDepth:
		return api.ErrLong
	}
	*p = append((*p)[:rest], next)
	return api.OK
}

// made is what a step lays on, of those that it has taken off; false, if it is no step.
func made(step api.Cause, taken pile) (laid, bool) {
	switch step.Kind {
	case api.CauseNone:
		return laid{nil, 1}, true
	case api.CauseNumber:
		return laid{step.No, 1}, true
	case api.CauseSpot:
		return laid{api.Spot{Err: step.No, At: step.At}, 2}, true
	case api.CauseTrail:
		return laid{api.Trail{Err: step.No, Pointer: step.Text}, 2}, true
	case api.CauseGone:
		return laid{(*api.Note)(nil), 1}, true
	case api.CauseNote:
		depth := 1
		if taken[0].error != nil {
			depth += taken[0].depth
		}
		return laid{&api.Note{Word: step.Text, Err: taken[0].error}, depth}, true
	case api.CauseAll:
		all, depth := api.All{}, 0
		for _, l := range taken {
			all = append(all, l.error)
			depth = max(depth, l.depth)
		}
		return laid{slices.Clip(all), depth + 1}, true
	}
	return laid{}, false
}
