package value_test

import (
	"hash/fnv"
	"math"
	"math/big"
	"strings"
	"testing"

	"colonnade/api"
	"colonnade/value"
)

func TestP25Show(t *testing.T) {
	for _, x := range []struct {
		v    api.Value
		want string
	}{
		{value.None(textType), "NULL"}, {value.None(api.Type{Kind: 9}), "NULL"}, {api.Value{Type: intType, Null: true, N: 5}, "NULL"},
		{value.OfBool(true), "TRUE"}, {value.OfBool(false), "FALSE"}, {api.Value{Type: boolType, N: 2}, "TRUE"}, {api.Value{Type: boolType, N: -1}, "TRUE"},
		{value.OfInt(-7), "-7"}, {value.OfInt(math.MinInt64), "-9223372036854775808"}, {api.Value{Type: api.Type{Kind: api.Int, Scale: 2}, N: 7}, "7"},
		{value.OfDec(-5, 2), "-0.05"}, {value.OfDec(5, 0), "5"}, {value.OfDec(math.MinInt64, 18), "-9.223372036854775808"}, {value.OfDec(0, 18), "0.000000000000000000"},
		{value.OfDec(-5, -1), "-5"}, {value.OfDec(5, 19), "5"}, {value.OfDec(math.MaxInt64, math.MaxInt), "9223372036854775807"},
		{value.OfText(""), "''"}, {value.OfText("it's"), "'it''s'"}, {value.OfText("''"), "''''''"}, {value.OfText("a\x00\xff"), "'a\x00\xff'"}, {value.OfText("NULL"), "'NULL'"}, {api.Value{Type: textType, N: 5, S: "x"}, "'x'"},
		{value.OfDay(0), "1970-01-01"}, {value.OfDay(api.MinDay), "0001-01-01"}, {value.OfDay(api.MaxDay), "9999-12-31"},
		{value.OfDay(api.MinDay - 1), "-719163"}, {value.OfDay(api.MaxDay + 1), "2932897"}, {value.OfDay(math.MinInt64), "-9223372036854775808"},
		{api.Value{}, "?"}, {api.Value{Type: api.Type{Kind: 6}, N: 1, S: "x"}, "?"}, {api.Value{Type: api.Type{Kind: -1}}, "?"}, {api.Value{Type: api.Type{Kind: math.MaxInt, Scale: 3}}, "?"},
	} {
		if got := value.Show(x.v); got != x.want {
			t.Errorf("Show(%v) = %q; want %q", x.v, got, x.want)
		}
	}
}

func TestP25Key(t *testing.T) {
	for _, x := range []struct {
		l    []api.Value
		want string
	}{
		{nil, ""}, {[]api.Value{}, ""}, {[]api.Value{value.OfInt(7), value.None(textType)}, "2v7;4n"},
		{[]api.Value{value.OfBool(true)}, "1v1;"}, {[]api.Value{value.OfBool(false)}, "1v0;"}, {[]api.Value{value.OfInt(math.MinInt64)}, "2v-9223372036854775808;"}, {[]api.Value{value.OfDay(-3)}, "5v-3;"},
		{[]api.Value{value.OfDec(5, 0)}, "300v5;"}, {[]api.Value{value.OfDec(-5, 9)}, "309v-5;"}, {[]api.Value{value.OfDec(5, 18)}, "318v5;"}, {[]api.Value{value.None(decType(10))}, "310n"},
		{[]api.Value{value.OfDec(5, 19)}, "399v5;"}, {[]api.Value{value.OfDec(5, -1)}, "399v5;"}, {[]api.Value{value.None(decType(math.MinInt))}, "399n"}, {[]api.Value{value.OfDec(5, 99)}, "399v5;"},
		{[]api.Value{value.OfText("")}, "4v0:"}, {[]api.Value{value.OfText("a;b")}, "4v3:a;b"}, {[]api.Value{value.OfText("é\xff")}, "4v3:é\xff"}, {[]api.Value{{Type: textType, N: 5, S: "x"}}, "4v1:x"},
		{[]api.Value{{Type: intType, N: 5, S: "x"}}, "2v5;"}, {[]api.Value{{Type: intType, Null: true, N: 5, S: "x"}}, "2n"}, {[]api.Value{{Type: api.Type{Kind: api.Int, Scale: 7}, N: 5}}, "2v5;"},
		{[]api.Value{{}}, "0v0;"}, {[]api.Value{{Type: api.Type{Kind: -12}, N: 3, S: "x"}}, "-12v3;"}, {[]api.Value{{Type: api.Type{Kind: math.MaxInt}, Null: true}}, "9223372036854775807n"},
		{[]api.Value{value.OfText(strings.Repeat("x", 256)), value.OfInt(1), value.OfDec(2, 1)}, "4v256:" + strings.Repeat("x", 256) + "2v1;301v2;"},
	} {
		if got := value.Key(x.l...); got != x.want {
			t.Errorf("Key(%v) = %q; want %q", x.l, got, x.want)
		}
	}
}

// wantHash is the hash of a key by integers that cannot wrap around.
func wantHash(seed uint64, key string) uint64 {
	start, _ := new(big.Int).SetString("14695981039346656037", 10)
	modulus := new(big.Int).Lsh(big.NewInt(1), 64)
	h := new(big.Int).Xor(start, new(big.Int).SetUint64(seed))
	for i := range len(key) {
		h.Xor(h, big.NewInt(int64(key[i])))
		h.Mul(h, big.NewInt(1099511628211)).Mod(h, modulus)
	}
	return h.Uint64()
}

func TestP25Hash(t *testing.T) {
	for _, seed := range []uint64{0, 1, 2, 14695981039346656037, 1 << 63, math.MaxUint64} {
		if got := value.Hash(seed); got != seed^14695981039346656037 {
			t.Errorf("Hash(%d) = %d", seed, got)
		}
		for i, v := range anyValues() {
			if got, want := value.Hash(seed, v), wantHash(seed, value.Key(v)); got != want {
				t.Fatalf("Hash(%d, %.60v) = %d; want %d", seed, v, got, want)
			}
			l := []api.Value{v, value.OfInt(int64(i)), value.None(v.Type), value.OfText("x"), v}
			if got, want := value.Hash(seed, l...), wantHash(seed, value.Key(l...)); got != want {
				t.Fatalf("Hash(%d, %.99v) = %d; want %d", seed, l, got, want)
			}
		}
	}
	// With a seed of 0 it is the hash FNV-1a of the key.
	h := fnv.New64a()
	h.Write([]byte("2v7;4n"))
	if got := value.Hash(0, value.OfInt(7), value.None(textType)); got != h.Sum64() {
		t.Errorf("Hash(0, 7, NULL) = %x; want %x", got, h.Sum64())
	}
}

func TestP27KeysOfValues(t *testing.T) {
	whose := map[string]api.Value{}
	for _, v := range validValues() {
		key := value.Key(v)
		if other, taken := whose[key]; taken && other != v {
			t.Fatalf("%.60v and %.60v have the key %q", v, other, key)
		}
		whose[key] = v
	}
}

func TestP27KeysOfLists(t *testing.T) {
	few := []api.Value{
		value.OfInt(1), value.OfInt(12), value.OfInt(2), value.OfInt(-1), value.OfDec(1, 0), value.OfDec(1, 1), value.OfDec(10, 1), value.OfDay(1), value.OfBool(true), value.OfBool(false),
		value.OfText(""), value.OfText("1"), value.OfText("2v1;"), value.OfText("n"), value.OfText("4n"), value.OfText("1:"), value.OfText("4v1:1"),
		value.None(intType), value.None(textType), value.None(decType(0)), value.None(decType(1)), value.None(boolType), value.None(dateType),
	}
	lists := [][]api.Value{nil}
	for _, a := range few {
		lists = append(lists, []api.Value{a})
		for _, b := range few {
			lists = append(lists, []api.Value{a, b})
			for _, c := range few {
				lists = append(lists, []api.Value{a, b, c})
			}
		}
	}
	whose := map[string][]api.Value{}
	for _, l := range lists {
		key := value.Key(l...)
		if other, taken := whose[key]; taken {
			t.Fatalf("the lists %v and %v have the key %q", l, other, key)
		}
		whose[key] = l
	}
}

func TestP27EqualListsHaveEqualKeys(t *testing.T) {
	for _, v := range anyValues() {
		w := v
		w.S = strings.Clone(v.S)
		if value.Key(v, w) != value.Key(w, v) || value.Hash(3, v, w) != value.Hash(3, w, v) {
			t.Fatalf("the key or the hash of %.60v differs", v)
		}
	}
}
