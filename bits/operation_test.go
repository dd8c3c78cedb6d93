package bits_test

import (
	"math"
	"math/rand"
	"slices"
	"testing"

	"colonnade/api"
	"colonnade/bits"
)

// places are the indices of the bits that are set.
func places(l []bool) []int {
	var p []int
	for i, yes := range l {
		if yes {
			p = append(p, i)
		}
	}
	return p
}

// expectAndOr tells if And or Or of bit vectors is not what the chapter's words say.
func expectAndOr(t *testing.T, l ...api.Bits) {
	t.Helper()
	and, e := bits.And(l...)
	or, e2 := bits.Or(l...)
	bad := len(l) == 0
	for _, b := range l {
		bad = bad || len(truths(b)) != len(truths(l[0]))
	}
	if bad {
		expectError(t, "And", and, e, api.ErrArg)
		expectError(t, "Or", or, e2, api.ErrArg)
		return
	}
	wantAnd, wantOr := truths(l[0]), truths(l[0])
	for _, b := range l {
		for i, yes := range truths(b) {
			wantAnd[i] = wantAnd[i] && yes
			wantOr[i] = wantOr[i] || yes
		}
	}
	expect(t, "And", and, wantAnd)
	expect(t, "Or", or, wantOr)
	if e != api.OK || e2 != api.OK {
		t.Errorf("And, Or of %v: %d, %d", l, e, e2)
	}
}

func TestP72AndOrOfNone(t *testing.T) {
	expectAndOr(t)
	expectAndOr(t, []api.Bits{}...)
}

func TestP72AndOrOfOne(t *testing.T) {
	for _, b := range vectors() {
		expectAndOr(t, b)
	}
}

func TestP72AndOrOfTwo(t *testing.T) {
	all := vectors()
	for _, a := range all {
		for _, b := range all {
			expectAndOr(t, a, b)
		}
	}
}

func TestP72AndOrOfMany(t *testing.T) {
	random := rand.New(rand.NewSource(72))
	for range 300 {
		n := random.Intn(40)
		var l []api.Bits
		for range 3 + random.Intn(4) {
			l = append(l, vector(some(random, n)))
		}
		expectAndOr(t, l...)
		l[random.Intn(len(l))] = vector(some(random, n+1))
		expectAndOr(t, l...)
		l[len(l)-1], l[0] = vector(some(random, n+8)), vector(some(random, n))
		expectAndOr(t, l...)
	}
}

func TestP72AndOrAskForIndicesNotForN(t *testing.T) {
	one := api.Bits{N: 8, B: []byte{12}}
	for _, b := range []api.Bits{{N: 8, B: []byte{10, 1}}, {N: 9, B: []byte{10}}, {N: math.MaxInt, B: []byte{10}}} {
		and, e := bits.And(one, b)
		or, e2 := bits.Or(b, one)
		if !same(and, api.Bits{N: 8, B: []byte{8}}) || !same(or, api.Bits{N: 8, B: []byte{14}}) || e != api.OK || e2 != api.OK {
			t.Errorf("And, Or of %v and %v: %v, %d, %v, %d", one, b, and, e, or, e2)
		}
	}
	expectAndOr(t, api.Bits{N: -3, B: []byte{1}}, api.Bits{}, api.Bits{N: 5}, api.Bits{N: 0, B: []byte{3}})
	expectAndOr(t, api.Bits{N: 9, B: []byte{1}}, api.Bits{N: 9, B: []byte{1, 1}})
}

func TestP72Not(t *testing.T) {
	for _, b := range vectors() {
		want := truths(b)
		for i := range want {
			want[i] = !want[i]
		}
		expect(t, "Not", bits.Not(b), want)
		expect(t, "Not of Not", bits.Not(bits.Not(b)), truths(b))
	}
}

func TestP72Count(t *testing.T) {
	for _, b := range vectors() {
		if n := bits.Count(b); n != len(places(truths(b))) {
			t.Errorf("Count(%v) = %d", b, n)
		}
	}
}

func TestP72Rank(t *testing.T) {
	for _, b := range vectors() {
		l := truths(b)
		for _, i := range indices(len(l)) {
			want := len(places(l[:min(max(i, 0), len(l))]))
			if n := bits.Rank(b, i); n != want {
				t.Errorf("Rank(%v, %d) = %d; want %d", b, i, n, want)
			}
		}
	}
}

func TestP72Pick(t *testing.T) {
	for _, b := range vectors() {
		p := places(truths(b))
		for _, k := range indices(len(p)) {
			i, ok := bits.Pick(b, k)
			want, there := 0, k >= 0 && k < len(p)
			if there {
				want = p[k]
			}
			if i != want || ok != there {
				t.Errorf("Pick(%v, %d) = %d, %t; want %d, %t", b, k, i, ok, want, there)
			}
		}
	}
}

func TestP72All(t *testing.T) {
	for _, b := range vectors() {
		all := bits.All(b)
		for range 2 {
			if l := slices.Collect(all); !slices.Equal(l, places(truths(b))) {
				t.Errorf("All(%v) = %v; want %v", b, l, places(truths(b)))
			}
		}
	}
}

func TestP72AllIsLeftEarly(t *testing.T) {
	for _, l := range [][]bool{ones(1, true), ones(20, true), some(rand.New(rand.NewSource(720)), 60)} {
		p := places(l)
		all := bits.All(vector(l))
		for stop := range len(p) {
			var got []int
			for i := range all {
				got = append(got, i)
				if len(got) > stop {
					break
				}
			}
			if !slices.Equal(got, p[:stop+1]) {
				t.Errorf("All(%v) left after %d yields %v", l, stop+1, got)
			}
		}
	}
}

func TestP72AllWithinAll(t *testing.T) {
	p := []int{0, 7, 8, 30}
	all := bits.All(api.Bits{N: 31, B: []byte{129, 1, 0, 64}})
	var got, want [][2]int
	for i := range all {
		for j := range all {
			got = append(got, [2]int{i, j})
		}
	}
	for _, i := range p {
		for _, j := range p {
			want = append(want, [2]int{i, j})
		}
	}
	if !slices.Equal(got, want) {
		t.Errorf("All within All yields %v", got)
	}
}

func TestP74NotOfAnd(t *testing.T) {
	random := rand.New(rand.NewSource(74))
	check := func(l ...api.Bits) {
		var nots []api.Bits
		for _, b := range l {
			nots = append(nots, bits.Not(b))
		}
		and, e := bits.And(l...)
		or, e2 := bits.Or(nots...)
		if e != e2 {
			t.Fatalf("And of %v: %d; Or of the Nots: %d", l, e, e2)
		}
		if e == api.OK && !same(bits.Not(and), or) {
			t.Errorf("Not of And of %v = %v; Or of the Nots = %v", l, bits.Not(and), or)
		}
	}
	check()
	for _, a := range vectors() {
		check(a)
		n := len(truths(a))
		check(a, vector(some(random, n)), vector(some(random, n)))
		for _, b := range odd() {
			check(a, b)
		}
	}
}

func TestP75RankOfPick(t *testing.T) {
	for _, b := range vectors() {
		var picked []int
		for k := 0; ; k++ {
			i, ok := bits.Pick(b, k)
			if !ok {
				break
			}
			if n := bits.Rank(b, i); n != k || bits.Rank(b, i+1) != k+1 || !bits.Get(b, i) {
				t.Errorf("Rank of Pick(%v, %d) = %d", b, k, n)
			}
			picked = append(picked, i)
		}
		if l := slices.Collect(bits.All(b)); !slices.Equal(l, picked) || len(l) != bits.Count(b) {
			t.Errorf("All(%v) = %v; Pick yields %v", b, l, picked)
		}
	}
}
