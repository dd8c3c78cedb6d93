package bits_test

import (
	"slices"
	"testing"

	"colonnade/api"
	"colonnade/bits"
)

// copied are bit vectors with bytes of their own, and room behind them.
func copied(l []api.Bits) []api.Bits {
	c := slices.Clone(l)
	for i, b := range l {
		c[i].B = append(make([]byte, 0, len(b.B)+9), b.B...)
	}
	return c
}

// spoil changes all bytes of b, those behind its end too.
func spoil(b api.Bits) {
	all := b.B[:cap(b.B)]
	for i := range all {
		all[i] ^= 0xA5
	}
}

// answers are the results of all functions that return a bit vector.
func answers(l ...api.Bits) []api.Bits {
	b := l[0]
	and, _ := bits.And(l...)
	or, _ := bits.Or(l...)
	one, _ := bits.And(b)
	other, _ := bits.Or(b)
	set, _ := bits.Set(b, 0, bits.Get(b, 0))
	n := b.N
	return []api.Bits{and, or, one, other, set, bits.Not(b), bits.Cut(b, 0, n), bits.Cut(b, 8, n), bits.Join(b), bits.Join(l...), bits.New(n), bits.Of(bits.List(b)...)}
}

func TestR3ArgumentsAreLeft(t *testing.T) {
	for _, b := range vectors() {
		before := []api.Bits{b, vector(truths(b)), {N: b.N, B: b.B}}
		l := copied(before)
		answers(l...)
		bits.Set(l[0], 0, !bits.Get(b, 0))
		bits.Check(l[0])
		bits.Count(l[0])
		bits.Rank(l[0], 3)
		bits.Pick(l[0], 1)
		bits.Same(l[0], l[1])
		for range bits.All(l[0]) {
			break
		}
		for i := range l {
			spare := l[i].B[len(l[i].B):cap(l[i].B)]
			if !same(l[i], before[i]) || slices.ContainsFunc(spare, func(c byte) bool { return c != 0 }) {
				t.Errorf("%v has become %v", before[i], l[i])
			}
		}
	}
}

func TestR3AnswersAreOfTheirOwn(t *testing.T) {
	for _, b := range vectors() {
		before := []api.Bits{b, vector(truths(b))}
		l := copied(before)
		got := answers(l...)
		want := copied(got)
		for i := range got {
			spoil(got[i])
		}
		for i := range l {
			if !same(l[i], before[i]) {
				t.Errorf("an answer shares memory with %v", before[i])
			}
		}
		got = answers(l...)
		for i := range l {
			spoil(l[i])
		}
		for i := range got {
			if !same(got[i], want[i]) {
				t.Errorf("answer %d of %v = %v, with another argument %v", i, before[0], want[i], got[i])
			}
			spoil(got[i])
			for k := i + 1; k < len(got); k++ {
				if !same(got[k], want[k]) {
					t.Errorf("answers %d and %d of %v share memory", i, k, before[0])
				}
			}
		}
	}
}

func TestR3ListsAreOfTheirOwn(t *testing.T) {
	l := []bool{true, false, true}
	b := bits.Of(l...)
	l[0], l[1] = false, true
	expect(t, "Of a list that changes", b, []bool{true, false, true})
	list := bits.List(b)
	clear(list)
	if !slices.Equal(bits.List(b), []bool{true, false, true}) {
		t.Error("two answers of List share memory")
	}
}

func TestR3AllKeepsNothing(t *testing.T) {
	for _, b := range vectors() {
		own := copied([]api.Bits{b})[0]
		all := bits.All(own)
		spoil(own)
		if l := slices.Collect(all); !slices.Equal(l, places(truths(b))) {
			t.Errorf("All(%v), with another argument since, = %v", b, l)
		}
		own = copied([]api.Bits{b})[0]
		var l []int
		for i := range bits.All(own) {
			l = append(l, i)
			spoil(own)
		}
		if !slices.Equal(l, places(truths(b))) {
			t.Errorf("All(%v), with another argument meanwhile, = %v", b, l)
		}
	}
}

func TestR6NilAndEmpty(t *testing.T) {
	none, empty := api.Bits{}, api.Bits{B: []byte{}}
	if bits.Check(none) != api.OK || bits.Check(empty) != api.OK || !bits.Same(none, empty) {
		t.Error("no bits by nil and by an empty slice are not the same")
	}
	and, e := bits.And(none, empty)
	or, e2 := bits.Or(empty, none)
	if e != api.OK || e2 != api.OK || !same(and, none) || !same(or, none) {
		t.Errorf("And, Or of no bits: %v, %d, %v, %d", and, e, or, e2)
	}
}
