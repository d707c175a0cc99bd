package le_test

import (
	"bytes"
	"math"
	"math/big"
	"testing"

	"quoin/api"
	"quoin/le"
)

// sizes are those that there are.
var sizes = []int{1, 2, 4, 8}

// noSizes are near those that there are, or such that sums and shifts of them wrap round.
var noSizes = []int{math.MinInt, math.MinInt + 1, math.MinInt32, -8, -4, -2, -1, 0, 3, 5, 6, 7, 9, 12, 16, 32, 64, 255, 256, 257, 264, math.MaxInt32, math.MaxUint32, 1<<32 + 1, 1<<62 + 1, math.MaxInt - 8, math.MaxInt - 1, math.MaxInt}

// numbers are the ends of every size with a step to both sides, and such as show bytes that are changed about.
var numbers = []int{
	math.MinInt, math.MinInt + 1, math.MinInt32 - 1, math.MinInt32, math.MinInt16 - 1, math.MinInt16, -257, -256, -255, -129, -128, -2, -1,
	0, 1, 2, 127, 128, 254, 255, 256, 257, 258, 32767, 32768, 65534, 65535, 65536, 65537, 0x123456,
	math.MaxInt32, math.MaxInt32 + 1, 0x89abcdef, 1<<32 - 2, 1<<32 - 1, 1 << 32, 1<<32 + 1, 1<<40 + 7, 1<<56 - 1, 1 << 56,
	0x0123456789abcdef, -0x0123456789abcdef, -0x7edcba9876543211, math.MaxInt - 1, math.MaxInt,
}

// power is 2^n.
func power(n int) *big.Int {
	return new(big.Int).Lsh(big.NewInt(1), uint(n))
}

// isNumber tells whether n is a number of size bytes, as the chapter's words say it.
func isNumber(n, size int) bool {
	if size == 8 {
		return true
	}
	return n >= 0 && big.NewInt(int64(n)).Cmp(power(8*size)) < 0
}

// bytesOf are the size bytes of n, by division alone, so that the tests don't lean on what they test.
func bytesOf(n, size int) []byte {
	rest := big.NewInt(int64(n))
	if n < 0 {
		rest.Add(rest, power(64))
	}
	var b []byte
	for range size {
		lowest := new(big.Int)
		rest.DivMod(rest, big.NewInt(256), lowest)
		b = append(b, byte(lowest.Int64()))
	}
	return b
}

// numberOf is the number whose bytes b are, by the words of the chapter.
func numberOf(b []byte) int {
	sum := new(big.Int)
	for i, c := range b {
		sum.Add(sum, new(big.Int).Mul(big.NewInt(int64(c)), power(8*i)))
	}
	if len(b) == 8 && sum.Cmp(power(63)) >= 0 {
		sum.Sub(sum, power(64))
	}
	return int(sum.Int64())
}

// mixed are n bytes no two of which beside each other are alike, some with their highest bit.
func mixed(n int) []byte {
	b := make([]byte, n)
	for i := range b {
		b[i] = byte(i*167 + 131)
	}
	return b
}

// wantPut holds Put's answer against bytes or an error.
func wantPut(t *testing.T, n, size int, want []byte, wantErr api.Errno) {
	t.Helper()
	b, e := le.Put(n, size)
	if e != wantErr || !bytes.Equal(b, want) {
		t.Errorf("Put(%d, %d) = %v, %v; want %v, %v", n, size, b, e, want, wantErr)
	}
}

// wantGet holds Get's answer against a number or an error.
func wantGet(t *testing.T, b []byte, at, size int, want int, wantErr api.Errno) {
	t.Helper()
	n, e := le.Get(b, at, size)
	if e != wantErr || n != want {
		t.Errorf("Get(%v, %d, %d) = %d, %v; want %d, %v", b, at, size, n, e, want, wantErr)
	}
}

// wantPad holds Pad's answer against bytes or an error.
func wantPad(t *testing.T, b []byte, multiple int, want []byte, wantErr api.Errno) {
	t.Helper()
	p, e := le.Pad(b, multiple)
	if e != wantErr || !bytes.Equal(p, want) {
		t.Errorf("Pad(%v, %d) = %v, %v; want %v, %v", b, multiple, p, e, want, wantErr)
	}
}

// P7.1: each size's ends, one step beyond them, and numbers below 0.
func TestPutEverySize(t *testing.T) {
	for _, size := range sizes {
		for _, n := range numbers {
			if isNumber(n, size) {
				wantPut(t, n, size, bytesOf(n, size), api.OK)
			} else {
				wantPut(t, n, size, nil, api.ErrArg)
			}
		}
	}
}

// P7.1: the ends, written out, so that they don't hang on the tests' own reckoning.
func TestPutEnds(t *testing.T) {
	for _, c := range []struct {
		n, size int
		want    []byte
		e       api.Errno
	}{
		{-1, 1, nil, api.ErrArg}, {0, 1, []byte{0}, api.OK}, {255, 1, []byte{255}, api.OK}, {256, 1, nil, api.ErrArg},
		{-1, 2, nil, api.ErrArg}, {0, 2, []byte{0, 0}, api.OK}, {65535, 2, []byte{255, 255}, api.OK}, {65536, 2, nil, api.ErrArg},
		{-1, 4, nil, api.ErrArg}, {0, 4, []byte{0, 0, 0, 0}, api.OK}, {4294967295, 4, []byte{255, 255, 255, 255}, api.OK}, {4294967296, 4, nil, api.ErrArg},
		{0, 8, []byte{0, 0, 0, 0, 0, 0, 0, 0}, api.OK},
		{-2, 8, []byte{254, 255, 255, 255, 255, 255, 255, 255}, api.OK},
		{math.MinInt, 8, []byte{0, 0, 0, 0, 0, 0, 0, 128}, api.OK},
		{math.MaxInt, 8, []byte{255, 255, 255, 255, 255, 255, 255, 127}, api.OK},
		{0x0102030405060708, 8, []byte{8, 7, 6, 5, 4, 3, 2, 1}, api.OK},
	} {
		wantPut(t, c.n, c.size, c.want, c.e)
	}
}

// P7.1: sizes that there are not, whatever the number.
func TestPutSizesThatMayNotBe(t *testing.T) {
	for _, size := range noSizes {
		for _, n := range numbers {
			wantPut(t, n, size, nil, api.ErrArg)
		}
	}
}

// P7.1: every size at every place, just room being there, one byte too few, and none at all.
func TestGetEveryPlace(t *testing.T) {
	for length := range 20 {
		b := mixed(length)
		for _, size := range sizes {
			for at := -9; at <= length+9; at++ {
				if at >= 0 && at+size <= length {
					wantGet(t, b, at, size, numberOf(b[at:at+size]), api.OK)
				} else {
					wantGet(t, b, at, size, 0, api.ErrBad)
				}
			}
		}
	}
}

// P7.1: places so far off that a sum of them and a size wraps round; bytes that are none, and nil.
func TestGetFarPlaces(t *testing.T) {
	far := []int{math.MinInt, math.MinInt + 1, math.MinInt + 8, math.MinInt32, -1 << 32, -1, 1 << 32, math.MaxInt32, math.MaxInt - 8, math.MaxInt - 7, math.MaxInt - 4, math.MaxInt - 1, math.MaxInt}
	for _, size := range sizes {
		for _, at := range far {
			wantGet(t, mixed(10), at, size, 0, api.ErrBad)
			wantGet(t, []byte{}, at, size, 0, api.ErrBad)
			wantGet(t, nil, at, size, 0, api.ErrBad)
		}
		wantGet(t, []byte{}, 0, size, 0, api.ErrBad)
		wantGet(t, nil, 0, size, 0, api.ErrBad)
	}
}

// P7.1: what stands in a slice's spare room is no byte of it.
func TestGetSpareRoom(t *testing.T) {
	whole := mixed(16)
	for _, size := range sizes {
		wantGet(t, whole[:8], 8-size+1, size, 0, api.ErrBad)
		wantGet(t, whole[:8], 8-size, size, numberOf(whole[8-size:8]), api.OK)
	}
}

// P7.1: a size that there is not is told ahead of a place that there is not.
func TestGetSizesThatMayNotBe(t *testing.T) {
	for _, size := range noSizes {
		for _, at := range []int{math.MinInt, -1, 0, 1, 10, 11, math.MaxInt} {
			wantGet(t, mixed(10), at, size, 0, api.ErrArg)
			wantGet(t, nil, at, size, 0, api.ErrArg)
		}
	}
}

// P7.1: eight bytes are below 0 by their highest bit alone, fewer bytes never.
func TestGetSign(t *testing.T) {
	top := []byte{0, 0, 0, 0, 0, 0, 0, 128}
	wantGet(t, top, 0, 8, math.MinInt, api.OK)
	wantGet(t, top, 4, 4, 1<<31, api.OK)
	wantGet(t, top, 6, 2, 1<<15, api.OK)
	wantGet(t, top, 7, 1, 1<<7, api.OK)
	ones := bytes.Repeat([]byte{255}, 8)
	wantGet(t, ones, 0, 8, -1, api.OK)
	wantGet(t, ones, 0, 4, 1<<32-1, api.OK)
	wantGet(t, ones, 0, 2, 1<<16-1, api.OK)
	wantGet(t, ones, 0, 1, 1<<8-1, api.OK)
	ones[7] = 127
	wantGet(t, ones, 0, 8, math.MaxInt, api.OK)
}

// P7.2: as few noughts as do, by counting up; the multiples' ends among them, and lengths that are one already.
func TestPadEveryLength(t *testing.T) {
	for _, multiple := range []int{1, 2, 3, 4, 5, 7, 8, 16, 64, 100, 4095, 4096} {
		for _, length := range []int{0, 1, 2, 3, 4, 5, 7, 8, 9, 15, 16, 17, 64, 99, 100, 101, 4094, 4095, 4096, 4097, 8190, 8192, 8193} {
			b := mixed(length)
			want := bytes.Clone(b)
			for len(want)%multiple != 0 {
				want = append(want, 0)
			}
			wantPad(t, b, multiple, want, api.OK)
		}
	}
}

// P7.2: no bytes at all stay none, whichever way they are handed in.
func TestPadNone(t *testing.T) {
	for _, multiple := range []int{1, 2, 4, 4096} {
		wantPad(t, nil, multiple, nil, api.OK)
		wantPad(t, []byte{}, multiple, nil, api.OK)
	}
}

// P7.2: multiples that may not be, whatever the bytes.
func TestPadMultiplesThatMayNotBe(t *testing.T) {
	for _, multiple := range []int{math.MinInt, math.MinInt + 1, math.MinInt32, -4096, -4, -1, 0, 4097, 4098, 8192, 65536, math.MaxInt32, 1 << 32, 1<<32 + 1, math.MaxInt - 1, math.MaxInt} {
		wantPad(t, nil, multiple, nil, api.ErrArg)
		wantPad(t, []byte{1}, multiple, nil, api.ErrArg)
		wantPad(t, mixed(4097), multiple, nil, api.ErrArg)
	}
}

// P7.3: what is handed in, its spare room too, is as it was, whatever is answered.
func TestArgumentsAreOnlyRead(t *testing.T) {
	whole := mixed(64)
	for length := range 20 {
		b := whole[:length]
		for _, size := range append([]int{0, 3}, sizes...) {
			for at := -1; at <= length; at++ {
				le.Get(b, at, size)
			}
		}
		for _, multiple := range []int{0, 1, 3, 8, 32, 4096, 4097} {
			le.Pad(b, multiple)
		}
	}
	if !bytes.Equal(whole, mixed(64)) {
		t.Error("the bytes that were handed in have changed")
	}
}

// P7.3: what Pad answers is not b's memory, with noughts behind it and without.
func TestPadIsNewMemory(t *testing.T) {
	for _, multiple := range []int{1, 4, 8, 4096} {
		whole := mixed(8192)
		b := whole[:8]
		p, e := le.Pad(b, multiple)
		if e != api.OK {
			t.Fatal(multiple, e)
		}
		p = p[:cap(p)]
		for i := range p {
			p[i] ^= 255
		}
		if !bytes.Equal(whole, mixed(8192)) {
			t.Errorf("Pad(b, %d) answers b's own memory", multiple)
		}
		kept, _ := le.Pad(b, multiple)
		before := bytes.Clone(kept)
		b[0] ^= 255
		if !bytes.Equal(kept, before) {
			t.Errorf("Pad(b, %d) hangs on b afterwards", multiple)
		}
	}
}

// P7.3: no two answers of Put share memory.
func TestPutIsNewMemory(t *testing.T) {
	for _, size := range sizes {
		first, _ := le.Put(1, size)
		second, _ := le.Put(1, size)
		first = first[:cap(first)]
		for i := range first {
			first[i] = 255
		}
		if !bytes.Equal(second, bytesOf(1, size)) {
			t.Errorf("two answers of Put(1, %d) share memory", size)
		}
		wantPut(t, 1, size, bytesOf(1, size), api.OK)
	}
}

// P7.4: what is put is got, wherever it stands, whatever is ahead of it and behind.
func TestPutIsGot(t *testing.T) {
	for _, size := range sizes {
		for _, n := range numbers {
			b, e := le.Put(n, size)
			if e != api.OK {
				continue
			}
			for _, at := range []int{0, 1, 2, 3, 5, 8, 100} {
				for _, behind := range [][]byte{nil, {0}, {255}, mixed(9), bytes.Repeat([]byte{255}, 8)} {
					all := append(append(mixed(at), b...), behind...)
					wantGet(t, all, at, size, n, api.OK)
				}
			}
		}
	}
}

// P7.4: what is got is put as just these bytes: each byte by itself, with all others 0, all others 255, and mixed.
func TestGotIsPut(t *testing.T) {
	for _, size := range sizes {
		for _, ground := range [][]byte{make([]byte, size), bytes.Repeat([]byte{255}, size), mixed(size)} {
			for i := range size {
				for c := range 256 {
					b := bytes.Clone(ground)
					b[i] = byte(c)
					n, e := le.Get(b, 0, size)
					if e != api.OK || !isNumber(n, size) {
						t.Fatal(b, n, e)
					}
					wantPut(t, n, size, b, api.OK)
				}
			}
		}
	}
}

// P7.4: all numbers of two bytes, there and back.
func TestEveryTwoBytes(t *testing.T) {
	for n := range 1 << 16 {
		b, e := le.Put(n, 2)
		if e != api.OK || len(b) != 2 || int(b[0]) != n%256 || int(b[1]) != n/256 {
			t.Fatal(n, b, e)
		}
		if m, e := le.Get(b, 0, 2); m != n || e != api.OK {
			t.Fatal(n, m, e)
		}
	}
}

// Every row of the chapter's 'Examples'.
func TestExamples(t *testing.T) {
	wantPut(t, 258, 2, []byte{2, 1}, api.OK)
	wantPut(t, -1, 8, []byte{255, 255, 255, 255, 255, 255, 255, 255}, api.OK)
	wantPut(t, 256, 1, nil, api.ErrArg)
	wantPut(t, 1, 3, nil, api.ErrArg)
	wantGet(t, []byte{7, 2, 1}, 1, 2, 258, api.OK)
	wantGet(t, []byte{7}, 0, 2, 0, api.ErrBad)
	wantGet(t, []byte{7}, -1, 1, 0, api.ErrBad)
	wantPad(t, []byte{1, 2, 3}, 4, []byte{1, 2, 3, 0}, api.OK)
	wantPad(t, nil, 4, nil, api.OK)
	wantPad(t, []byte{1}, 0, nil, api.ErrArg)
	if api.ErrArg != 2 || api.ErrBad != 8 {
		t.Error("the errors' numbers are not the chapter's", int(api.ErrArg), int(api.ErrBad))
	}
}
