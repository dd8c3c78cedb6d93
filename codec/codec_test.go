package codec_test

import (
	"bytes"
	"hash/crc32"
	"math"
	"math/big"
	"math/rand"
	"slices"
	"testing"

	"colonnade/api"
	"colonnade/codec"
)

// edges are integers at and beside each place where their encodings grow by a byte, and the ends of the int64s.
func edges() []int64 {
	l := []int64{0, 1, 2, 60, 118, 119, 120, 121, 255, 256, math.MaxInt64 - 1, math.MaxInt64, math.MaxInt64 - 119, math.MaxInt64 - 120, math.MaxInt64 - 121}
	for k := range 8 {
		power := int64(1) << (8 * k)
		l = append(l, power-1, power, 120+power-2, 120+power-1, 120+power, 120+power+1, 3*power+7)
	}
	for _, n := range slices.Clone(l) {
		l = append(l, -1-n)
	}
	slices.Sort(l)
	return slices.Compact(l)
}

// wantInt is the encoding of n by the chapter's words.
func wantInt(n int64) []byte {
	if n < 0 {
		b := wantInt(-(n + 1))
		for i := range b {
			b[i] = ^b[i]
		}
		return b
	}
	if n <= 119 {
		return []byte{byte(128 + n)}
	}
	m := new(big.Int).Sub(big.NewInt(n), big.NewInt(120)).Bytes()
	if len(m) == 0 {
		m = []byte{0}
	}
	return append([]byte{byte(247 + len(m))}, m...)
}

// wantBytes is the encoding of a byte string by the chapter's words.
func wantBytes(b []byte) []byte {
	return append(bytes.ReplaceAll(b, []byte{0}, []byte{0, 1}), 0, 0)
}

// byteStrings are all byte strings of at most the given length with the bytes that the encoding treats in ways of their own, and some others.
func byteStrings(length int) [][]byte {
	l := [][]byte{nil}
	for from := 0; length > 0; length-- {
		to := len(l)
		for _, b := range l[from:to] {
			for _, c := range []byte{0, 1, 2, 97, 255} {
				l = append(l, append(slices.Clone(b), c))
			}
		}
		from = to
	}
	return l
}

// namedInts are the chapter's examples, and integers of each length.
func namedInts() map[int64][]byte {
	return map[int64][]byte{
		0: {128}, 119: {247}, 120: {248, 0}, 376: {249, 1, 0}, -1: {127}, -121: {7, 255},
		1: {129}, -2: {126}, -120: {8}, 375: {248, 255}, -376: {7, 0}, -377: {6, 254, 255}, 120 + 0x010203: {250, 1, 2, 3},
		math.MaxInt64: {255, 127, 255, 255, 255, 255, 255, 255, 135}, math.MinInt64: {0, 128, 0, 0, 0, 0, 0, 0, 120},
	}
}

func TestP33Size(t *testing.T) {
	for n, want := range namedInts() {
		if size := codec.Size(n); size != len(want) {
			t.Errorf("Size(%d) = %d; want %d", n, size, len(want))
		}
	}
	for _, n := range edges() {
		if size := codec.Size(n); size != len(wantInt(n)) {
			t.Errorf("Size(%d) = %d; want %d", n, size, len(wantInt(n)))
		}
	}
}

func TestP33Row(t *testing.T) {
	if b := codec.Row(); len(b) != 0 {
		t.Errorf("Row() = %v", b)
	}
	if b := codec.Row([]int64{}...); len(b) != 0 {
		t.Errorf("Row of an empty list = %v", b)
	}
	for n, want := range namedInts() {
		if b := codec.Row(n); !bytes.Equal(b, want) {
			t.Errorf("Row(%d) = %v; want %v", n, b, want)
		}
	}
	if b := codec.Row(0, 120, -121, 0); !bytes.Equal(b, []byte{128, 248, 0, 7, 255, 128}) {
		t.Errorf("Row(0, 120, -121, 0) = %v", b)
	}
	var all []byte
	for _, n := range edges() {
		if b := codec.Row(n); !bytes.Equal(b, wantInt(n)) {
			t.Errorf("Row(%d) = %v; want %v", n, b, wantInt(n))
		}
		all = append(all, wantInt(n)...)
	}
	if b := codec.Row(edges()...); !bytes.Equal(b, all) {
		t.Errorf("Row of all edges = %v; want %v", b, all)
	}
}

func TestP33RowIsNotBounded(t *testing.T) {
	l := slices.Repeat([]int64{math.MaxInt64}, api.MaxBytes/8)
	if b := codec.Row(l...); !bytes.Equal(b, bytes.Repeat(wantInt(math.MaxInt64), len(l))) {
		t.Errorf("Row of %d integers has %d bytes", len(l), len(b))
	}
}

func TestP33RowLeavesItsList(t *testing.T) {
	l := edges()
	b := codec.Row(l...)
	if !slices.Equal(l, edges()) {
		t.Error("Row has changed its arguments")
	}
	clear(b)
	if b := codec.Row(l...); b[0] != wantInt(l[0])[0] {
		t.Error("two answers of Row share memory")
	}
}

func TestP33SumNamed(t *testing.T) {
	for _, x := range []struct {
		l    [][]byte
		want uint32
	}{
		{nil, 0}, {[][]byte{nil}, 0}, {[][]byte{{}, nil, {}}, 0},
		{[][]byte{[]byte("123456789")}, 0xE3069283}, {[][]byte{[]byte("1234"), nil, []byte("56789")}, 0xE3069283},
		{[][]byte{{0}}, 0x527D5351}, {[][]byte{make([]byte, 32)}, 0x8A9136AA}, {[][]byte{bytes.Repeat([]byte{255}, 32)}, 0x62A8AB43},
	} {
		if s := codec.Sum(x.l...); s != x.want {
			t.Errorf("Sum(%v) = %08X; want %08X", x.l, s, x.want)
		}
	}
}

func TestP33Sum(t *testing.T) {
	table := crc32.MakeTable(crc32.Castagnoli)
	random := rand.New(rand.NewSource(33))
	for length := range 600 {
		b := make([]byte, length)
		random.Read(b)
		before := slices.Clone(b)
		want := crc32.Checksum(b, table)
		if s := codec.Sum(b); s != want {
			t.Fatalf("Sum(%v) = %08X; want %08X", b, s, want)
		}
		i := random.Intn(length + 1)
		j := i + random.Intn(length-i+1)
		if s := codec.Sum(b[:i], b[i:j], b[j:]); s != want {
			t.Fatalf("Sum of %v cut at %d and %d = %08X; want %08X", b, i, j, s, want)
		}
		if !bytes.Equal(b, before) {
			t.Fatal("Sum has changed its arguments")
		}
	}
}

// sortedLists are lists of integers, of which many are prefixes of others or differ late, in their order.
func sortedLists() [][]int64 {
	random := rand.New(rand.NewSource(35))
	pool := edges()
	lists := [][]int64{nil}
	for _, n := range pool {
		lists = append(lists, []int64{n}, []int64{n, math.MinInt64}, []int64{n, math.MaxInt64})
	}
	for range 300 {
		l := lists[random.Intn(len(lists))]
		lists = append(lists, append(slices.Clone(l), pool[random.Intn(len(pool))]))
	}
	slices.SortFunc(lists, slices.Compare[[]int64])
	return slices.CompactFunc(lists, slices.Equal[[]int64])
}

func TestP35OrderOfIntegers(t *testing.T) {
	lists := sortedLists()
	var rows [][]byte
	for _, l := range lists {
		rows = append(rows, codec.Row(l...))
	}
	for i := range rows {
		for j := range i {
			if bytes.Compare(rows[j], rows[i]) >= 0 {
				t.Errorf("Row%v = %v is not before Row%v = %v", lists[j], rows[j], lists[i], rows[i])
			}
		}
	}
}

func TestP35OrderOfTexts(t *testing.T) {
	texts := byteStrings(4)
	slices.SortFunc(texts, bytes.Compare)
	var before []byte
	for i, s := range texts {
		w := codec.NewWriter()
		w.Text(string(s))
		now := w.Out()
		if i > 0 && bytes.Compare(before, now) >= 0 {
			t.Errorf("the encoding %v of %v is not before %v of %v", before, texts[i-1], now, s)
		}
		before = now
	}
}

func TestP36NoIntegerIsAPrefix(t *testing.T) {
	pool := edges()
	for n := int64(-1000); n <= 1000; n++ {
		pool = append(pool, n)
	}
	slices.Sort(pool)
	pool = slices.Compact(pool)
	for i, a := range pool {
		row := codec.Row(a)
		for j, b := range pool {
			if i != j && bytes.HasPrefix(codec.Row(b), row) {
				t.Errorf("Row(%d) = %v is a prefix of Row(%d) = %v", a, row, b, codec.Row(b))
			}
		}
	}
}

func TestP36NoByteStringIsAPrefix(t *testing.T) {
	var encodings [][]byte
	for _, s := range byteStrings(4) {
		w := codec.NewWriter()
		w.Bytes(s)
		encodings = append(encodings, w.Out())
	}
	for i, a := range encodings {
		for j, b := range encodings {
			if i != j && bytes.HasPrefix(b, a) {
				t.Errorf("the encoding %v is a prefix of %v", a, b)
			}
		}
	}
}
