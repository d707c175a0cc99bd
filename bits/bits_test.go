package bits_test

import (
	"math"
	"math/big"
	"slices"
	"testing"

	"quoin/api"
	"quoin/bits"
)

// words are those in which a wrong shift or mask shows: ends, alternations, and a mix.
var words = []uint32{0, 1, 2, 0x4d2, 0x7fffffff, 0x80000000, 0x80000001, 0xaaaaaaaa, 0x55555555, 0xfffffffe, 0xffffffff, 0xdeadbeef}

// odd are numbers near all ends that a field, a size or a place has, and those at which sums wrap round.
var odd = []int{math.MinInt, math.MinInt + 1, math.MinInt32, -64, -33, -32, -2, -1, 0, 1, 2, 15, 30, 31, 32, 33, 62, 63, 64, 65, math.MaxInt32, math.MaxUint32, math.MaxInt - 31, math.MaxInt - 1, math.MaxInt}

// bitOf tells a bit of a word, by division alone, so that the tests don't lean on what they test.
func bitOf(w uint32, k int) uint32 {
	for range k {
		w /= 2
	}
	return w % 2
}

// power is 2^n, whatever n is.
func power(n int) *big.Int {
	return new(big.Int).Lsh(big.NewInt(1), uint(n))
}

// below tells whether v is below 2^n.
func below(v uint32, n int) bool {
	return big.NewInt(int64(v)).Cmp(power(n)) < 0
}

// field tells whether at and n are a field, as the chapter's words say it.
func field(at, n int) bool {
	sum := new(big.Int).Add(big.NewInt(int64(at)), big.NewInt(int64(n)))
	return at >= 0 && at <= 31 && n >= 1 && n <= 32 && sum.Cmp(big.NewInt(32)) <= 0
}

// firstPlaces are the numbers below n, rising.
func firstPlaces(n int) []int {
	var l []int
	for k := range n {
		l = append(l, k)
	}
	return l
}

// lists are places: none, one, all 32 up, down and mixed, and an instruction's.
func lists() [][]int {
	var down, mixed []int
	for k := range 32 {
		down = append(down, 31-k)
		mixed = append(mixed, k*13%32)
	}
	up := firstPlaces(32)
	branch := []int{8, 9, 10, 11, 25, 26, 27, 28, 29, 30, 7, 31}
	return [][]int{nil, {}, {0}, {31}, {31, 0}, {7, 0, 31}, {1, 2}, branch, up[:31], down[:31], up, down, mixed}
}

// numbers are those to be scattered at n places, the greatest and the first too great among them.
func numbers(n int) []uint32 {
	l := slices.Clone(words)
	for _, v := range []uint64{1<<n - 1, 1 << n, 1<<n + 1} {
		if v <= math.MaxUint32 {
			l = append(l, uint32(v))
		}
	}
	return l
}

// P1.1: Take is a field's bits, in every field there is.
func TestTakeEveryField(t *testing.T) {
	for at := range 32 {
		for n := 1; at+n <= 32; n++ {
			for _, w := range words {
				var want uint32
				for k := n - 1; k >= 0; k-- {
					want = want*2 + bitOf(w, at+k)
				}
				if v, e := bits.Take(w, at, n); v != want || e != api.OK {
					t.Errorf("Take(%#x, %d, %d) = %#x, %d, not %#x", w, at, n, v, e, want)
				}
			}
		}
	}
}

// P1.1: Put is the word with a field's bits being v; v is below 2^n.
func TestPutEveryField(t *testing.T) {
	for at := range 32 {
		for n := 1; at+n <= 32; n++ {
			for _, w := range words {
				for _, v := range numbers(n) {
					checkPut(t, w, at, n, v)
				}
			}
		}
	}
}

func checkPut(t *testing.T, w uint32, at, n int, v uint32) {
	t.Helper()
	x, e := bits.Put(w, at, n, v)
	if !below(v, n) {
		if x != 0 || e != api.ErrArg {
			t.Errorf("Put(%#x, %d, %d, %#x) = %#x, %d, not ErrArg", w, at, n, v, x, e)
		}
		return
	}
	if e != api.OK {
		t.Errorf("Put(%#x, %d, %d, %#x): %d", w, at, n, v, e)
		return
	}
	for k := range 32 {
		want := bitOf(w, k)
		if k >= at && k < at+n {
			want = bitOf(v, k-at)
		}
		if bitOf(x, k) != want {
			t.Errorf("Put(%#x, %d, %d, %#x) = %#x: bit %d is not %d", w, at, n, v, x, k, want)
		}
	}
}

// P1.1, R1: what is no field is ErrArg, without a result; nothing panics at the ends of int.
func TestFieldsThatMayNotBe(t *testing.T) {
	for _, at := range odd {
		for _, n := range odd {
			want := api.OK
			if !field(at, n) {
				want = api.ErrArg
			}
			v, e := bits.Take(0xffffffff, at, n)
			if e != want || (e != api.OK && v != 0) {
				t.Errorf("Take at %d, %d: %#x, %d", at, n, v, e)
			}
			x, e := bits.Put(0xffffffff, at, n, 1)
			if e != want || (e != api.OK && x != 0) {
				t.Errorf("Put at %d, %d: %#x, %d", at, n, x, e)
			}
		}
	}
}

// P1.2: Sign of every size, at 0, at both sides of 2^(n-1), and at both sides of 2^n.
func TestSignEverySize(t *testing.T) {
	for n := 1; n <= 32; n++ {
		l := append(numbers(n), uint32(1)<<(n-1), uint32(1)<<(n-1)-1)
		for _, v := range l {
			want, wantErr := int64(v), api.OK
			if v >= uint32(1)<<(n-1) {
				want -= power(n).Int64()
			}
			if !below(v, n) {
				want, wantErr = 0, api.ErrArg
			}
			if x, e := bits.Sign(v, n); int64(x) != want || e != wantErr {
				t.Errorf("Sign(%#x, %d) = %d, %d, not %d, %d", v, n, x, e, want, wantErr)
			}
		}
	}
}

// P1.2, R1: sizes that may not be.
func TestSignSizesThatMayNotBe(t *testing.T) {
	for _, n := range odd {
		if n >= 1 && n <= 32 {
			continue
		}
		for _, v := range words {
			if x, e := bits.Sign(v, n); x != 0 || e != api.ErrArg {
				t.Errorf("Sign(%#x, %d) = %d, %d", v, n, x, e)
			}
		}
	}
}

// P1.2: Fits at both ends of every size, and of sizes that may not be never.
func TestFits(t *testing.T) {
	for n := 1; n <= 63; n++ {
		half := 1 << (n - 1)
		for _, v := range []int{-half, half - 1, 0, -1, -half / 2} {
			if !bits.Fits(v, n) {
				t.Errorf("%d is of %d bits", v, n)
			}
		}
		for _, v := range []int{-half - 1, half, math.MinInt, math.MaxInt} {
			if bits.Fits(v, n) {
				t.Errorf("%d is not of %d bits", v, n)
			}
		}
	}
	for _, n := range odd {
		if n >= 1 && n <= 63 {
			continue
		}
		for _, v := range odd {
			if bits.Fits(v, n) {
				t.Errorf("nothing is of %d bits, but %d fits", n, v)
			}
		}
	}
}

// P1.3: Scatter puts each bit at its place and nothing elsewhere; v is below 2^(how many places).
func TestScatter(t *testing.T) {
	for _, l := range lists() {
		for _, v := range numbers(len(l)) {
			var want uint32
			wantErr := api.OK
			if below(v, len(l)) {
				for i, p := range l {
					want += bitOf(v, i) * uint32(power(p).Uint64())
				}
			} else {
				wantErr = api.ErrArg
			}
			if w, e := bits.Scatter(v, l); w != want || e != wantErr {
				t.Errorf("Scatter(%#x, %v) = %#x, %d, not %#x, %d", v, l, w, e, want, wantErr)
			}
		}
	}
}

// P1.3: Gather takes each place's bit, whatever stands elsewhere.
func TestGather(t *testing.T) {
	for _, l := range lists() {
		for _, w := range words {
			var want uint32
			for i, p := range l {
				want += bitOf(w, p) * uint32(power(i).Uint64())
			}
			if v, e := bits.Gather(w, l); v != want || e != api.OK {
				t.Errorf("Gather(%#x, %v) = %#x, %d, not %#x", w, l, v, e, want)
			}
		}
	}
}

// P1.3: lists that are too long, and numbers that are no places; too long comes ahead of all else.
func TestPlacesThatMayNotBe(t *testing.T) {
	for i, c := range []struct {
		places []int
		want   api.Errno
	}{
		{[]int{32}, api.ErrArg},
		{[]int{-1}, api.ErrArg},
		{[]int{math.MaxInt}, api.ErrArg},
		{[]int{math.MinInt}, api.ErrArg},
		{[]int{0, 64}, api.ErrArg},
		{[]int{3, 3}, api.ErrArg},
		{[]int{0, 1, 0}, api.ErrArg},
		{[]int{31, 5, 31}, api.ErrArg},
		{make([]int, 32), api.ErrArg},
		{append(firstPlaces(31), 30), api.ErrArg},
		{append(firstPlaces(31), 32), api.ErrArg},
		{make([]int, 33), api.ErrMany},
		{firstPlaces(33), api.ErrMany},
		{[]int{33: -1}, api.ErrMany},
		{make([]int, 1000), api.ErrMany},
	} {
		for _, v := range words {
			if w, e := bits.Scatter(v, c.places); w != 0 || e != c.want {
				t.Errorf("%d: Scatter(%#x) = %#x, %d, not %d", i, v, w, e, c.want)
			}
			if x, e := bits.Gather(v, c.places); x != 0 || e != c.want {
				t.Errorf("%d: Gather(%#x) = %#x, %d, not %d", i, v, x, e, c.want)
			}
		}
	}
}

// P1.4: neither the places nor the room behind them are written.
func TestPlacesAreOnlyRead(t *testing.T) {
	for _, l := range append(lists(), []int{3, 3}, []int{1, 99}, make([]int, 33)) {
		room := append(slices.Clone(l), 41, 42, 43)
		before := slices.Clone(room)
		bits.Scatter(0, room[:len(l)])
		bits.Scatter(0xffffffff, room[:len(l)])
		bits.Gather(0xffffffff, room[:len(l)])
		if !slices.Equal(room, before) {
			t.Errorf("%v became %v", before, room)
		}
	}
}

// P1.5: what was put is taken; all else stays.
func TestPutIsTaken(t *testing.T) {
	for at := range 32 {
		for n := 1; at+n <= 32; n++ {
			for _, w := range words {
				for _, v := range numbers(n) {
					if below(v, n) {
						checkTaken(t, w, at, n, v)
					}
				}
			}
		}
	}
}

func checkTaken(t *testing.T, w uint32, at, n int, v uint32) {
	t.Helper()
	x, _ := bits.Put(w, at, n, v)
	if back, e := bits.Take(x, at, n); back != v || e != api.OK {
		t.Errorf("%#x put at %d, %d is taken as %#x, %d", v, at, n, back, e)
	}
	if at > 0 && x%uint32(power(at).Uint64()) != w%uint32(power(at).Uint64()) {
		t.Errorf("Put(%#x, %d, %d, %#x) = %#x changed what is ahead", w, at, n, v, x)
	}
	if end := at + n; end < 32 {
		was, _ := bits.Take(w, end, 32-end)
		is, _ := bits.Take(x, end, 32-end)
		if is != was {
			t.Errorf("Put(%#x, %d, %d, %#x) = %#x changed what is behind", w, at, n, v, x)
		}
	}
}

// P1.5: what was scattered is gathered; what is gathered, scattered, is the word's bits at these places.
func TestScatteredIsGathered(t *testing.T) {
	for _, l := range lists() {
		var at uint32
		for _, p := range l {
			at |= 1 << p
		}
		for _, v := range numbers(len(l)) {
			if !below(v, len(l)) {
				continue
			}
			w, _ := bits.Scatter(v, l)
			if back, e := bits.Gather(w|^at, l); back != v || e != api.OK {
				t.Errorf("%#x at %v is gathered as %#x, %d", v, l, back, e)
			}
		}
		for _, w := range words {
			v, _ := bits.Gather(w, l)
			if back, e := bits.Scatter(v, l); back != w&at || e != api.OK {
				t.Errorf("%#x of %v is scattered as %#x, %d", w, l, back, e)
			}
		}
	}
}

// P1.5: Sign undoes cutting off, just if the number fits.
func TestSignUndoesCuttingOff(t *testing.T) {
	for n := 1; n <= 32; n++ {
		half := 1 << (n - 1)
		l := append(slices.Clone(odd), -half-1, -half, -half+1, half-1, half, half+1, 2*half-1, 2*half, 2*half+1, -2*half)
		for _, v := range l {
			cut := uint32(uint64(v) % (1 << n))
			x, e := bits.Sign(cut, n)
			if e != api.OK {
				t.Errorf("%d cut off at %d: %d", v, n, e)
			}
			if (x == v) != bits.Fits(v, n) {
				t.Errorf("%d cut off at %d is had back as %d; fits: %v", v, n, x, bits.Fits(v, n))
			}
		}
	}
}

// Every row of the chapter's 'Examples'.
func TestExamples(t *testing.T) {
	if v, e := bits.Take(1234, 4, 4); v != 13 || e != api.OK {
		t.Error("Take of 1234:", v, e)
	}
	if w, e := bits.Put(0, 8, 4, 15); w != 3840 || e != api.OK {
		t.Error("Put of 15:", w, e)
	}
	if v, e := bits.Sign(255, 8); v != -1 || e != api.OK {
		t.Error("Sign of 255:", v, e)
	}
	if v, e := bits.Sign(127, 8); v != 127 || e != api.OK {
		t.Error("Sign of 127:", v, e)
	}
	if !bits.Fits(-128, 8) || bits.Fits(128, 8) {
		t.Error("Fits:", bits.Fits(-128, 8), bits.Fits(128, 8))
	}
	w, e := bits.Scatter(5, []int{7, 0, 31})
	if w != 2147483776 || e != api.OK {
		t.Error("Scatter of 5:", w, e)
	}
	if v, e := bits.Gather(w, []int{7, 0, 31}); v != 5 || e != api.OK {
		t.Error("Gather of that:", v, e)
	}
	if v, e := bits.Take(0, 31, 2); v != 0 || e != api.ErrArg {
		t.Error("Take of no field:", v, e)
	}
	if w, e := bits.Scatter(4, []int{1, 2}); w != 0 || e != api.ErrArg {
		t.Error("Scatter of 4 at two places:", w, e)
	}
}
