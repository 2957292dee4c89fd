package tests

import (
	"math"
	"slices"
	"testing"

	"loop.example/varve/impl"
)

func span(from int, to int) impl.Span {
	return impl.Span{From: from, To: to}
}

func set(list ...impl.Span) []impl.Span {
	return list
}

// inside is the tests' own notion of membership, so that SetHas is tested too.
func inside(list []impl.Span, at int) bool {
	for _, s := range list {
		if s.From <= at && at < s.To {
			return true
		}
	}
	return false
}

// setWhere builds a period set point by point, the long way round.
func setWhere(holds func(at int) bool) []impl.Span {
	var list []impl.Span
	for at := 0; at <= impl.TimeMax; at++ {
		switch {
		case !holds(at):
		case at > 0 && holds(at-1):
			list[len(list)-1].To = at + 1
		default:
			list = append(list, span(at, at+1))
		}
	}
	return list
}

// spansBetween has a period for each two of the bounds, which are ascending.
func spansBetween(bounds ...int) []impl.Span {
	var list []impl.Span
	for i, from := range bounds {
		for _, to := range bounds[i+1:] {
			list = append(list, span(from, to))
		}
	}
	return list
}

// edgeSpans has periods that overlap, contain each other, touch and lie apart,
// at the first points, at the last ones, and across all of them.
func edgeSpans() []impl.Span {
	return spansBetween(0, 1, 2, 3, 50, 97, 98, 99, 100)
}

// edgeSets has every set of the first three, one middle, and the last three points.
func edgeSets() [][]impl.Span {
	points := []int{0, 1, 2, 50, 97, 98, 99}
	var list [][]impl.Span
	for mask := range 1 << len(points) {
		list = append(list, setWhere(func(at int) bool {
			i := slices.Index(points, at)
			return i >= 0 && mask>>i&1 == 1
		}))
	}
	return append(list, set(span(0, 100)), set(span(1, 99)), set(span(0, 50), span(51, 100)))
}

func badSpans() []impl.Span {
	return []impl.Span{
		{}, span(5, 5), span(6, 5), span(-1, 3), span(-3, -1), span(0, 101), span(99, 101),
		span(100, 100), span(100, 101), span(99, 99), span(99, 0), span(0, -1),
		span(math.MinInt, math.MaxInt), span(math.MinInt, 5), span(0, math.MaxInt), span(math.MaxInt, math.MinInt),
	}
}

func badSets() [][]impl.Span {
	list := [][]impl.Span{
		set(span(1, 3), span(3, 5)),
		set(span(1, 4), span(3, 5)),
		set(span(1, 9), span(3, 5)),
		set(span(6, 8), span(1, 3)),
		set(span(1, 3), span(1, 3)),
		set(span(1, 3), span(7, 9), span(9, 11)),
	}
	for _, s := range badSpans() {
		list = append(list, set(s), set(span(1, 3), s), set(s, span(50, 60)))
	}
	return list
}

func TestSpanOk(t *testing.T) {
	for _, s := range edgeSpans() {
		if !impl.SpanOk(s) {
			t.Error("not ok", s)
		}
	}
	for _, s := range badSpans() {
		if impl.SpanOk(s) {
			t.Error("ok", s)
		}
	}
}

func TestSetOk(t *testing.T) {
	if !impl.SetOk(nil) || !impl.SetOk([]impl.Span{}) {
		t.Error("the empty set")
	}
	for _, list := range edgeSets() {
		if !impl.SetOk(list) {
			t.Error("not ok", list)
		}
	}
	for _, list := range badSets() {
		if impl.SetOk(list) {
			t.Error("ok", list)
		}
	}
}

// P1
func TestSpanMeetIsTheIntersection(t *testing.T) {
	for _, a := range edgeSpans() {
		for _, b := range edgeSpans() {
			want := setWhere(func(at int) bool { return inside(set(a), at) && inside(set(b), at) })
			got, ok := impl.SpanMeet(a, b)
			if ok != (len(want) == 1) || ok && got != want[0] || !ok && got != span(0, 0) {
				t.Error(a, b, got, ok)
			}
			if back, backOk := impl.SpanMeet(b, a); back != got || backOk != ok {
				t.Error("not symmetric", a, b)
			}
		}
	}
}

func TestSpanMeetOfTouchingSpansIsEmpty(t *testing.T) {
	for _, p := range [][2]impl.Span{{span(2, 5), span(5, 12)}, {span(0, 99), span(99, 100)}, {span(0, 1), span(1, 2)}} {
		if got, ok := impl.SpanMeet(p[0], p[1]); ok || got != span(0, 0) {
			t.Error(p, got, ok)
		}
	}
}

func TestSpanMeetRejectsBadSpans(t *testing.T) {
	for _, s := range badSpans() {
		for _, p := range [][2]impl.Span{{s, span(0, 100)}, {span(0, 100), s}, {s, s}} {
			if got, ok := impl.SpanMeet(p[0], p[1]); ok || got != span(0, 0) {
				t.Error(p, got, ok)
			}
		}
	}
}

// P2
func TestSpanLessIsTheDifference(t *testing.T) {
	for _, a := range edgeSpans() {
		for _, b := range edgeSpans() {
			want := setWhere(func(at int) bool { return inside(set(a), at) && !inside(set(b), at) })
			got := impl.SpanLess(a, b)
			if !slices.Equal(got, want) || !impl.SetOk(got) || len(got) > 2 {
				t.Error(a, b, got)
			}
		}
	}
}

func TestSpanLessAtEdges(t *testing.T) {
	for _, c := range []struct {
		a, b impl.Span
		want []impl.Span
	}{
		{span(0, 100), span(40, 60), set(span(0, 40), span(60, 100))},
		{span(0, 100), span(0, 100), nil},
		{span(0, 100), span(99, 100), set(span(0, 99))},
		{span(0, 100), span(0, 1), set(span(1, 100))},
		{span(2, 8), span(8, 9), set(span(2, 8))},
		{span(2, 8), span(1, 2), set(span(2, 8))},
		{span(99, 100), span(0, 99), set(span(99, 100))},
	} {
		if got := impl.SpanLess(c.a, c.b); !slices.Equal(got, c.want) {
			t.Error(c, got)
		}
	}
}

func TestSpanLessRejectsBadSpans(t *testing.T) {
	for _, s := range badSpans() {
		if len(impl.SpanLess(s, span(50, 60))) != 0 || len(impl.SpanLess(span(50, 60), s)) != 0 || len(impl.SpanLess(s, s)) != 0 {
			t.Error(s)
		}
	}
}

// P3
func TestSetAddIsAUnion(t *testing.T) {
	for _, list := range edgeSets() {
		for _, s := range edgeSpans() {
			want := setWhere(func(at int) bool { return inside(list, at) || inside(set(s), at) })
			got := impl.SetAdd(list, s)
			if !slices.Equal(got, want) || !impl.SetOk(got) {
				t.Error(list, s, got)
			}
			for at := -1; at <= impl.TimeMax+1; at++ {
				if impl.SetHas(got, at) != (impl.SetHas(list, at) || impl.SetHas(set(s), at)) {
					t.Error(list, s, at)
				}
			}
			if !slices.Equal(impl.SetAdd(got, s), got) {
				t.Error("adding again", list, s)
			}
		}
	}
}

func TestSetAddJoinsSpansThatTouch(t *testing.T) {
	for _, c := range []struct {
		list []impl.Span
		s    impl.Span
		want []impl.Span
	}{
		{nil, span(99, 100), set(span(99, 100))},
		{set(span(1, 3), span(8, 9)), span(3, 5), set(span(1, 5), span(8, 9))},
		{set(span(1, 3), span(8, 9)), span(5, 8), set(span(1, 3), span(5, 9))},
		{set(span(1, 3), span(8, 9)), span(3, 8), set(span(1, 9))},
		{set(span(1, 3), span(8, 9)), span(4, 7), set(span(1, 3), span(4, 7), span(8, 9))},
		{set(span(1, 30), span(40, 41)), span(2, 5), set(span(1, 30), span(40, 41))},
		{set(span(0, 99)), span(99, 100), set(span(0, 100))},
		{set(span(99, 100)), span(0, 1), set(span(0, 1), span(99, 100))},
	} {
		if got := impl.SetAdd(c.list, c.s); !slices.Equal(got, c.want) {
			t.Error(c, got)
		}
	}
}

func TestSetAddRejectsBadArguments(t *testing.T) {
	for _, s := range badSpans() {
		if len(impl.SetAdd(set(span(50, 60)), s)) != 0 || len(impl.SetAdd(nil, s)) != 0 {
			t.Error(s)
		}
	}
	for _, list := range badSets() {
		if len(impl.SetAdd(list, span(0, 100))) != 0 || len(impl.SetAdd(list, span(70, 80))) != 0 {
			t.Error(list)
		}
	}
}

// P4
func TestSetOfIsTheUnionOfSpans(t *testing.T) {
	list := edgeSpans()
	for _, a := range list {
		for _, b := range list {
			for _, c := range []impl.Span{span(0, 1), span(2, 3), span(50, 97), span(99, 100)} {
				want := setWhere(func(at int) bool { return inside(set(a, b, c), at) })
				got := impl.SetOf(set(a, b, c))
				if !slices.Equal(got, want) || !impl.SetOk(got) || !slices.Equal(impl.SetOf(got), got) {
					t.Error(a, b, c, got)
				}
				for _, other := range [][]impl.Span{set(a, c, b), set(b, a, c), set(b, c, a), set(c, a, b), set(c, b, a)} {
					if !slices.Equal(impl.SetOf(other), want) {
						t.Error("order matters", other)
					}
				}
			}
		}
	}
}

func TestSetOfManySpans(t *testing.T) {
	var single, touching []impl.Span
	for i := range 50 {
		at := (i*37 + 11) % 50
		single = append(single, span(2*at, 2*at+1))
		touching = append(touching, span(2*at, 2*at+2))
	}
	if got := impl.SetOf(single); len(got) != 50 || !impl.SetOk(got) || impl.SetMany(got) != 50 {
		t.Error(got)
	}
	if got := impl.SetOf(slices.Concat(touching, single, touching)); !slices.Equal(got, set(span(0, 100))) {
		t.Error(got)
	}
	if got := impl.SetOf(nil); len(got) != 0 {
		t.Error(got)
	}
	for _, list := range edgeSets() {
		if !slices.Equal(impl.SetOf(list), list) {
			t.Error("a set is not its own union", list)
		}
	}
}

func TestSetOfRejectsBadSpans(t *testing.T) {
	for _, s := range badSpans() {
		for _, list := range [][]impl.Span{set(s), set(s, span(1, 3)), set(span(1, 3), s), set(span(1, 3), s, span(0, 100))} {
			if len(impl.SetOf(list)) != 0 {
				t.Error(list)
			}
		}
	}
}

// P5
func TestSetHasIsMembership(t *testing.T) {
	for _, list := range edgeSets() {
		for at := -2; at <= impl.TimeMax+2; at++ {
			if impl.SetHas(list, at) != inside(list, at) {
				t.Error(list, at)
			}
		}
	}
	whole := set(span(0, 100))
	if !impl.SetHas(whole, 0) || !impl.SetHas(whole, 99) {
		t.Error("an outermost point")
	}
	for _, at := range []int{-1, 100, 101, math.MinInt, math.MaxInt} {
		if impl.SetHas(whole, at) || impl.SetHas(nil, at) {
			t.Error("no point", at)
		}
	}
}

func TestSetHasRejectsBadSets(t *testing.T) {
	for _, list := range badSets() {
		for at := -1; at <= impl.TimeMax+1; at++ {
			if impl.SetHas(list, at) {
				t.Error(list, at)
			}
		}
	}
}

// P6
func TestSetMeetIsTheIntersection(t *testing.T) {
	for _, a := range edgeSets() {
		for _, b := range edgeSets() {
			want := setWhere(func(at int) bool { return inside(a, at) && inside(b, at) })
			got := impl.SetMeet(a, b)
			if !slices.Equal(got, want) || !impl.SetOk(got) {
				t.Error(a, b, got)
			}
			if !slices.Equal(impl.SetMeet(b, a), got) || !slices.Equal(impl.SetMeet(got, b), got) {
				t.Error("not symmetric or meeting again changes it", a, b)
			}
		}
		if !slices.Equal(impl.SetMeet(a, a), a) {
			t.Error("not idempotent", a)
		}
	}
}

func TestSetMeetAtEdges(t *testing.T) {
	whole, parts := set(span(0, 100)), set(span(0, 1), span(2, 50), span(99, 100))
	if !slices.Equal(impl.SetMeet(whole, parts), parts) {
		t.Error("with all points")
	}
	if len(impl.SetMeet(set(span(2, 5), span(9, 12)), set(span(5, 9), span(12, 100)))) != 0 {
		t.Error("sets that only touch")
	}
	if len(impl.SetMeet(nil, parts)) != 0 || len(impl.SetMeet(parts, nil)) != 0 || len(impl.SetMeet(nil, nil)) != 0 {
		t.Error("with the empty set")
	}
}

// P7
func TestSetLessIsTheDifference(t *testing.T) {
	for _, a := range edgeSets() {
		for _, b := range edgeSets() {
			want := setWhere(func(at int) bool { return inside(a, at) && !inside(b, at) })
			got := impl.SetLess(a, b)
			if !slices.Equal(got, want) || !impl.SetOk(got) {
				t.Error(a, b, got)
			}
			if !slices.Equal(impl.SetOf(slices.Concat(got, impl.SetMeet(a, b))), a) {
				t.Error("together with SetMeet", a, b)
			}
		}
	}
}

func TestSetLessAtEdges(t *testing.T) {
	whole, parts := set(span(0, 100)), set(span(0, 1), span(2, 50), span(99, 100))
	if !slices.Equal(impl.SetLess(whole, parts), set(span(1, 2), span(50, 99))) {
		t.Error("of all points")
	}
	if len(impl.SetLess(parts, whole)) != 0 || len(impl.SetLess(parts, parts)) != 0 || len(impl.SetLess(nil, parts)) != 0 {
		t.Error("nothing is left")
	}
	if !slices.Equal(impl.SetLess(parts, nil), parts) || !slices.Equal(impl.SetLess(whole, nil), whole) {
		t.Error("without the empty set")
	}
	if a := set(span(2, 5), span(9, 12)); !slices.Equal(impl.SetLess(a, set(span(5, 9), span(12, 100))), a) {
		t.Error("sets that only touch")
	}
}

func TestSetMeetAndSetLessRejectBadSets(t *testing.T) {
	for _, list := range badSets() {
		for _, other := range [][]impl.Span{nil, set(span(0, 100)), set(span(70, 80)), list} {
			if len(impl.SetMeet(list, other)) != 0 || len(impl.SetMeet(other, list)) != 0 {
				t.Error("meet", list, other)
			}
			if len(impl.SetLess(list, other)) != 0 || len(impl.SetLess(other, list)) != 0 {
				t.Error("less", list, other)
			}
		}
	}
}

// P8
func TestSetManyCountsPoints(t *testing.T) {
	for _, list := range edgeSets() {
		want := 0
		for at := 0; at <= impl.TimeMax; at++ {
			if impl.SetHas(list, at) {
				want++
			}
		}
		if got := impl.SetMany(list); got != want {
			t.Error(list, got, want)
		}
	}
	if impl.SetMany(nil) != 0 || impl.SetMany(set(span(0, 100))) != 100 || impl.SetMany(set(span(99, 100))) != 1 {
		t.Error("edges")
	}
}

func TestSetManyRejectsBadSets(t *testing.T) {
	for _, list := range badSets() {
		if got := impl.SetMany(list); got != -1 {
			t.Error(list, got)
		}
	}
}

// roomy leaves spare capacity behind a list, where a careless append would write.
func roomy(list []impl.Span) []impl.Span {
	more := make([]impl.Span, len(list), len(list)+8)
	copy(more, list)
	return more
}

func TestSpanResultsShareNoMemory(t *testing.T) {
	for name, call := range map[string]func(a []impl.Span, b []impl.Span) []impl.Span{
		"SetAdd":         func(a []impl.Span, b []impl.Span) []impl.Span { return impl.SetAdd(a, b[0]) },
		"SetAdd to none": func(a []impl.Span, b []impl.Span) []impl.Span { return impl.SetAdd(a[:0], b[0]) },
		"SetOf":          func(a []impl.Span, b []impl.Span) []impl.Span { return impl.SetOf(a) },
		"SetMeet":        impl.SetMeet,
		"SetLess":        impl.SetLess,
		"SetMeet itself": func(a []impl.Span, b []impl.Span) []impl.Span { return impl.SetMeet(a, a) },
		"SetLess none":   func(a []impl.Span, b []impl.Span) []impl.Span { return impl.SetLess(a, nil) },
	} {
		for _, first := range [][]impl.Span{set(span(1, 9), span(20, 30)), set(span(20, 30), span(1, 9), span(9, 12))} {
			a, b := roomy(first), roomy(set(span(3, 5), span(25, 28)))
			wholeA, wholeB := slices.Clone(a[:cap(a)]), slices.Clone(b[:cap(b)])
			got := call(a, b)
			for i := range got[:cap(got)] {
				got[:cap(got)][i] = span(77, 88)
			}
			if !slices.Equal(a[:cap(a)], wholeA) || !slices.Equal(b[:cap(b)], wholeB) {
				t.Error(name, a, b)
			}
		}
	}
}
