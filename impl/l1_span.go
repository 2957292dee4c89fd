package impl

import (
	"cmp"
	"iter"
	"slices"
)

// TimeMax is the last point of time.
const TimeMax = 99

// Span is points of time from one on, ahead of another one.
type Span struct {
	From int
	To   int
}

// ok needs no test of From against TimeMax: a greater To within bounds implies it.
func (s Span) ok() bool {
	return 0 <= s.From && s.From < s.To && s.To <= TimeMax+1
}

func (s Span) has(at int) bool {
	return s.From <= at && at < s.To
}

func (s Span) many() int {
	return s.To - s.From
}

// meet is empty for periods that only touch: To is not a point of the period.
func (s Span) meet(other Span) (Span, bool) {
	both := Span{From: max(s.From, other.From), To: min(s.To, other.To)}
	if both.From >= both.To {
		return Span{}, false
	}
	return both, true
}

// common yields ascending periods that do not touch, if a and b each do:
// two neighbours are always parted by a gap of a or of b.
func common(a iter.Seq[Span], b iter.Seq[Span]) iter.Seq[Span] {
	return func(yield func(Span) bool) {
		for s := range a {
			for other := range b {
				if both, ok := s.meet(other); ok && !yield(both) {
					return
				}
			}
		}
	}
}

// outside yields the periods of all points that a period set lacks, so that a
// difference is an intersection.
func outside(list []Span) iter.Seq[Span] {
	return func(yield func(Span) bool) {
		from := 0
		for _, s := range list {
			if from < s.From && !yield(Span{From: from, To: s.From}) {
				return
			}
			from = s.To
		}
		if from <= TimeMax {
			yield(Span{From: from, To: TimeMax + 1})
		}
	}
}

// joined expects periods ordered by From. Periods that touch become one, since
// a set is represented by its maximal periods.
func joined(spans iter.Seq[Span]) []Span {
	var set []Span
	for s := range spans {
		last := len(set) - 1
		if last >= 0 && s.From <= set[last].To {
			set[last].To = max(set[last].To, s.To)
		} else {
			set = append(set, s)
		}
	}
	return set
}

// SpanOk says whether a span is ok.
func SpanOk(s Span) bool {
	return s.ok()
}

// SpanMeet is what is in two spans.
func SpanMeet(a Span, b Span) (Span, bool) {
	if !a.ok() || !b.ok() {
		return Span{}, false
	}
	return a.meet(b)
}

// SpanLess is what is left of a span without another one.
func SpanLess(a Span, b Span) []Span {
	return SetLess([]Span{a}, []Span{b})
}

// SetOk says whether a set is ok.
func SetOk(list []Span) bool {
	for i, s := range list {
		if !s.ok() || i > 0 && s.From <= list[i-1].To {
			return false
		}
	}
	return true
}

// SetAdd is a set with a span.
func SetAdd(list []Span, s Span) []Span {
	if !SetOk(list) {
		return nil
	}
	return SetOf(slices.Concat(list, []Span{s}))
}

// SetOf is the set of spans.
func SetOf(list []Span) []Span {
	for _, s := range list {
		if !s.ok() {
			return nil
		}
	}
	byFrom := func(a Span, b Span) int { return cmp.Compare(a.From, b.From) }
	return joined(slices.Values(slices.SortedFunc(slices.Values(list), byFrom)))
}

// SetHas says whether a point is in a set.
func SetHas(list []Span, at int) bool {
	if !SetOk(list) {
		return false
	}
	for _, s := range list {
		if s.has(at) {
			return true
		}
	}
	return false
}

// SetMeet is what is in two sets.
func SetMeet(a []Span, b []Span) []Span {
	if !SetOk(a) || !SetOk(b) {
		return nil
	}
	return slices.Collect(common(slices.Values(a), slices.Values(b)))
}

// SetLess is what is in a set, and not in another one.
func SetLess(a []Span, b []Span) []Span {
	if !SetOk(a) || !SetOk(b) {
		return nil
	}
	return slices.Collect(common(slices.Values(a), outside(b)))
}

// SetMany is how many points a set has.
func SetMany(list []Span) int {
	if !SetOk(list) {
		return -1
	}
	many := 0
	for _, s := range list {
		many += s.many()
	}
	return many
}
