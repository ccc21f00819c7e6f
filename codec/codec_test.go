package codec_test

import (
	"bytes"
	"hash/crc32"
	"math"
	"slices"
	"testing"

	"learner/api"
	"learner/codec"
	"learner/random"
)

// tail is what follows an encoding; it has bytes of every kind.
var tail = []byte{0, 0x80, 0xff, 1}

// follow returns the parts, one after the other, in new memory.
func follow(parts ...[]byte) []byte {
	return slices.Concat(parts...)
}

// fill returns n equal bytes.
func fill(x byte, n int) []byte {
	return bytes.Repeat([]byte{x}, n)
}

// numbers are those at which the encoding gets longer or the sign changes, with their encodings.
var numbers = []struct {
	n int
	b []byte
}{
	{0, []byte{0}},
	{-1, []byte{1}},
	{1, []byte{2}},
	{-2, []byte{3}},
	{63, []byte{0x7e}},
	{-64, []byte{0x7f}},
	{64, []byte{0x80, 1}},
	{-65, []byte{0x81, 1}},
	{150, []byte{0xac, 2}},
	{8191, []byte{0xfe, 0x7f}},
	{-8192, []byte{0xff, 0x7f}},
	{8192, []byte{0x80, 0x80, 1}},
	{1 << 20, []byte{0x80, 0x80, 0x80, 1}},
	{-123456789, []byte{0xa9, 0xb4, 0xde, 0x75}},
	{1<<62 - 1, []byte{0xfe, 255, 255, 255, 255, 255, 255, 255, 0x7f}},
	{-1 << 62, []byte{255, 255, 255, 255, 255, 255, 255, 255, 0x7f}},
	{1 << 62, []byte{0x80, 0x80, 0x80, 0x80, 0x80, 0x80, 0x80, 0x80, 0x80, 1}},
	{math.MaxInt, []byte{0xfe, 255, 255, 255, 255, 255, 255, 255, 255, 1}},
	{math.MinInt, []byte{255, 255, 255, 255, 255, 255, 255, 255, 255, 1}},
}

// P5.1: encodings of numbers, with as few groups as possible.
func TestPutInt(t *testing.T) {
	for _, c := range numbers {
		if b := codec.PutInt(c.n); !bytes.Equal(b, c.b) {
			t.Errorf("PutInt of %d returns %x", c.n, b)
		}
	}
}

// P5.1: encodings of lists and of lists of words.
func TestPutLists(t *testing.T) {
	for i, c := range []struct {
		l    []int
		want []byte
	}{
		{nil, []byte{0}},
		{[]int{}, []byte{0}},
		{[]int{0}, []byte{2, 0}},
		{[]int{1, -1}, []byte{4, 2, 1}},
		{[]int{64, 0, -65}, []byte{6, 0x80, 1, 0, 0x81, 1}},
		{make([]int, 63), follow([]byte{0x7e}, fill(0, 63))},
		{make([]int, 64), follow([]byte{0x80, 1}, fill(0, 64))},
	} {
		if b := codec.PutInts(c.l); !bytes.Equal(b, c.want) {
			t.Errorf("case %d: PutInts returns %x", i, b)
		}
	}
	for i, c := range []struct {
		l    [][]int
		want []byte
	}{
		{nil, []byte{0}},
		{[][]int{}, []byte{0}},
		{[][]int{nil}, []byte{2, 0}},
		{[][]int{{}, {0}}, []byte{4, 0, 2, 0}},
		{[][]int{{1, -1}, nil, {64}, {1, -1}}, []byte{8, 4, 2, 1, 0, 2, 0x80, 1, 4, 2, 1}},
		{make([][]int, 64), follow([]byte{0x80, 1}, fill(0, 64))},
	} {
		if b := codec.PutWords(c.l); !bytes.Equal(b, c.want) {
			t.Errorf("case %d: PutWords returns %x", i, b)
		}
	}
}

// P5.2: numbers, alone and before other bytes.
func TestTakeInt(t *testing.T) {
	for _, c := range numbers {
		for _, b := range [][]byte{c.b, follow(c.b, tail), follow(c.b, c.b)} {
			if n, used, e := codec.TakeInt(b); n != c.n || used != len(c.b) || e != api.OK {
				t.Errorf("TakeInt of %x returns %d, %d, %d", b, n, used, e)
			}
		}
	}
}

// P5.2: the errors; the last byte that may end an encoding is the tenth one.
func TestTakeIntErrors(t *testing.T) {
	for _, c := range []struct {
		b    []byte
		want api.Errno
	}{
		{nil, api.ErrTruncated},
		{[]byte{}, api.ErrTruncated},
		{[]byte{0x80}, api.ErrTruncated},
		{[]byte{0xff}, api.ErrTruncated},
		{fill(0x80, 9), api.ErrTruncated},
		{fill(0xff, 9), api.ErrTruncated},
		{fill(0x80, 10), api.ErrSyntax},
		{fill(0xff, 10), api.ErrSyntax},
		{follow(fill(0x80, 10), []byte{1}), api.ErrSyntax},
		{follow(fill(0x80, 10), []byte{0}), api.ErrSyntax},
		{[]byte{0x80, 0}, api.ErrSyntax},
		{[]byte{0xff, 0}, api.ErrSyntax},
		{[]byte{0x81, 0, 5}, api.ErrSyntax},
		{[]byte{0x80, 0x80, 0}, api.ErrSyntax},
		{follow(fill(0x80, 8), []byte{0}), api.ErrSyntax},
		{follow(fill(0x80, 9), []byte{0}), api.ErrSyntax},
		{follow(fill(0x80, 9), []byte{2}), api.ErrSyntax},
		{follow(fill(0xff, 9), []byte{3}), api.ErrSyntax},
		{follow(fill(0xff, 9), []byte{0x7f}), api.ErrSyntax},
	} {
		if n, used, e := codec.TakeInt(c.b); n != 0 || used != 0 || e != c.want {
			t.Errorf("TakeInt of %x returns %d, %d, %d", c.b, n, used, e)
		}
	}
}

// P5.3: lists of numbers, alone and before other bytes, and their errors.
func TestTakeInts(t *testing.T) {
	for i, c := range []struct {
		b    []byte
		want []int
		used int
		e    api.Errno
	}{
		{[]byte{0}, nil, 1, api.OK},
		{[]byte{0, 2, 0}, nil, 1, api.OK},
		{[]byte{4, 2, 1}, []int{1, -1}, 3, api.OK},
		{[]byte{4, 2, 1, 0x80}, []int{1, -1}, 3, api.OK},
		{[]byte{4, 0x80, 1, 0x81, 1, 0}, []int{64, -65}, 5, api.OK},
		{follow([]byte{0x80, 1}, fill(0, 65)), make([]int, 64), 66, api.OK},
		{nil, nil, 0, api.ErrTruncated},
		{[]byte{0x80}, nil, 0, api.ErrTruncated},
		{[]byte{0x80, 0}, nil, 0, api.ErrSyntax},
		{fill(0x80, 10), nil, 0, api.ErrSyntax},
		{[]byte{1}, nil, 0, api.ErrSyntax},
		{[]byte{3, 0, 0}, nil, 0, api.ErrSyntax},
		{follow(fill(0xff, 9), []byte{1}), nil, 0, api.ErrSyntax},
		{[]byte{2}, nil, 0, api.ErrTruncated},
		{[]byte{4, 2}, nil, 0, api.ErrTruncated},
		{[]byte{4, 2, 0x80}, nil, 0, api.ErrTruncated},
		{[]byte{4, 2, 0x80, 0}, nil, 0, api.ErrSyntax},
		{[]byte{6, 0x80, 0, 0x80}, nil, 0, api.ErrSyntax},
		{[]byte{6, 0, 0x80, 0}, nil, 0, api.ErrSyntax},
		{follow([]byte{4, 0}, fill(0x80, 10)), nil, 0, api.ErrSyntax},
		{follow([]byte{4, 0}, fill(0x80, 9)), nil, 0, api.ErrTruncated},
		{follow(codec.PutInt(math.MaxInt), fill(0, 20)), nil, 0, api.ErrTruncated},
		{follow(codec.PutInt(1<<31), fill(2, 20)), nil, 0, api.ErrTruncated},
	} {
		l, used, e := codec.TakeInts(c.b)
		if !slices.Equal(l, c.want) || used != c.used || e != c.e {
			t.Errorf("case %d: TakeInts returns %v, %d, %d", i, l, used, e)
		}
	}
}

// P5.3: lists of words, alone and before other bytes, and their errors.
func TestTakeWords(t *testing.T) {
	for i, c := range []struct {
		b    []byte
		want [][]int
		used int
		e    api.Errno
	}{
		{[]byte{0}, nil, 1, api.OK},
		{[]byte{0, 0}, nil, 1, api.OK},
		{[]byte{4, 0, 2, 0}, [][]int{nil, {0}}, 4, api.OK},
		{[]byte{4, 0, 2, 0, 9}, [][]int{nil, {0}}, 4, api.OK},
		{[]byte{6, 4, 2, 1, 2, 0x80, 1, 0, 1}, [][]int{{1, -1}, {64}, nil}, 8, api.OK},
		{nil, nil, 0, api.ErrTruncated},
		{[]byte{0x80}, nil, 0, api.ErrTruncated},
		{[]byte{0x80, 0}, nil, 0, api.ErrSyntax},
		{[]byte{1}, nil, 0, api.ErrSyntax},
		{[]byte{3, 0}, nil, 0, api.ErrSyntax},
		{[]byte{2}, nil, 0, api.ErrTruncated},
		{[]byte{4, 0}, nil, 0, api.ErrTruncated},
		{[]byte{2, 2}, nil, 0, api.ErrTruncated},
		{[]byte{4, 2, 0, 4, 0}, nil, 0, api.ErrTruncated},
		{[]byte{2, 1}, nil, 0, api.ErrSyntax},
		{[]byte{6, 1}, nil, 0, api.ErrSyntax},
		{[]byte{6, 0, 3}, nil, 0, api.ErrSyntax},
		{[]byte{2, 0x81, 0}, nil, 0, api.ErrSyntax},
		{[]byte{4, 2, 0x80, 0}, nil, 0, api.ErrSyntax},
		{follow([]byte{2}, codec.PutInt(math.MaxInt), fill(0, 9)), nil, 0, api.ErrTruncated},
		{follow(codec.PutInt(math.MaxInt), fill(0, 9)), nil, 0, api.ErrTruncated},
	} {
		l, used, e := codec.TakeWords(c.b)
		if !slices.EqualFunc(l, c.want, slices.Equal[[]int]) || used != c.used || e != c.e {
			t.Errorf("case %d: TakeWords returns %v, %d, %d", i, l, used, e)
		}
	}
}

// P5.4: known checksums, and those of the library.
func TestSum(t *testing.T) {
	for s, want := range map[string]int{
		"":                                  0,
		"a":                                 0xe8b7be43,
		"abc":                               0x352441c2,
		"123456789":                         0xcbf43926,
		"\x00":                              0xd202ef8d,
		"\x00\x00\x00\x00":                  0x2144df1c,
		"\xff\xff\xff\xff":                  0xffffffff,
		string(fill(0xff, 32)):              0xff6cab0b,
		"The quick brown fox jumps over it": int(crc32.ChecksumIEEE([]byte("The quick brown fox jumps over it"))),
	} {
		if sum := codec.Sum([]byte(s)); sum != want {
			t.Errorf("Sum of %q returns %x", s, sum)
		}
	}
	for n := range 300 {
		b := drawn(uint64(n), n)
		if sum := codec.Sum(b); sum != int(crc32.ChecksumIEEE(b)) {
			t.Errorf("Sum of %x returns %x", b, sum)
		}
	}
}

// drawn returns n random bytes.
func drawn(state uint64, n int) []byte {
	b := make([]byte, n)
	for i := range b {
		var x uint64
		x, state = random.Next(state)
		b[i] = byte(x)
	}
	return b
}

// seal returns the checksum of b as the end of a frame.
func seal(b []byte) []byte {
	n := crc32.ChecksumIEEE(b)
	return []byte{byte(n >> 24), byte(n >> 16), byte(n >> 8), byte(n)}
}

// P5.5: frames, with the lengths of contents at which the encoding of the length gets longer.
func TestSeal(t *testing.T) {
	if b := codec.Seal(7, nil); !bytes.Equal(b, []byte{7, 0, 0x0e, 0x98, 0x84, 0x38}) {
		t.Errorf("Seal of no content returns %x", b)
	}
	for _, n := range []int{0, 1, 2, 63, 64, 200, 8191, 8192} {
		content := drawn(3, n)
		head := follow([]byte{9}, codec.PutInt(n), content)
		if b := codec.Seal(9, content); !bytes.Equal(b, follow(head, seal(head))) {
			t.Errorf("Seal of %d bytes returns %x", n, b)
		}
	}
}

// P5.5: kinds outside the range.
func TestSealKinds(t *testing.T) {
	for kind, want := range map[int]byte{
		0: 0, 1: 1, 254: 254, 255: 255, -1: 0, -5: 0, math.MinInt: 0, 256: 255, 257: 255, math.MaxInt: 255,
	} {
		head := []byte{want, 4, 8, 0}
		if b := codec.Seal(kind, []byte{8, 0}); !bytes.Equal(b, follow(head, seal(head))) {
			t.Errorf("Seal of the kind %d returns %x", kind, b)
		}
	}
}

// P5.6: frames, alone and before other bytes.
func TestOpen(t *testing.T) {
	for _, kind := range []int{0, 1, 127, 128, 255} {
		for _, n := range []int{0, 1, 63, 64, 500} {
			content := drawn(1, n)
			frame := codec.Seal(kind, content)
			for _, b := range [][]byte{frame, follow(frame, tail), follow(frame, frame)} {
				k, c, used, e := codec.Open(b)
				if k != kind || !bytes.Equal(c, content) || used != len(frame) || e != api.OK {
					t.Errorf("Open of %x returns %d, %x, %d, %d", b, k, c, used, e)
				}
			}
		}
	}
}

// P5.6: the errors and their order.
func TestOpenErrors(t *testing.T) {
	frame := codec.Seal(7, []byte("ab"))
	for i, c := range []struct {
		b    []byte
		want api.Errno
	}{
		{nil, api.ErrTruncated},
		{[]byte{}, api.ErrTruncated},
		{[]byte{7}, api.ErrTruncated},
		{[]byte{7, 0x80}, api.ErrTruncated},
		{follow([]byte{7}, fill(0x80, 9)), api.ErrTruncated},
		{follow([]byte{7}, fill(0x80, 10)), api.ErrSyntax},
		{[]byte{7, 0x80, 0}, api.ErrSyntax},
		{[]byte{7, 0x84, 0, 'a', 'b', 0, 0, 0, 0}, api.ErrSyntax},
		{[]byte{7, 1}, api.ErrSyntax},
		{[]byte{7, 1, 0, 0, 0, 0}, api.ErrSyntax},
		{follow([]byte{7}, codec.PutInt(math.MinInt), frame), api.ErrSyntax},
		{[]byte{7, 0}, api.ErrTruncated},
		{[]byte{7, 0, 0, 0, 0}, api.ErrTruncated},
		{[]byte{7, 0, 0, 0, 0, 0}, api.ErrChecksum},
		{[]byte{7, 2, 0, 0, 0, 0}, api.ErrTruncated},
		{[]byte{7, 2, 0, 0, 0, 0, 0}, api.ErrChecksum},
		{frame[:7], api.ErrTruncated},
		{frame[:4], api.ErrTruncated},
		{frame[:3], api.ErrTruncated},
		{follow([]byte{8}, frame[1:]), api.ErrChecksum},
		{follow(frame[:4], seal([]byte("ab"))), api.ErrChecksum},
		{follow(frame[:4], []byte{frame[7], frame[6], frame[5], frame[4]}), api.ErrChecksum},
		{follow([]byte{7}, codec.PutInt(math.MaxInt), frame), api.ErrTruncated},
		{follow([]byte{7}, codec.PutInt(math.MaxInt-3), frame), api.ErrTruncated},
		{follow([]byte{7}, codec.PutInt(1<<40), frame), api.ErrTruncated},
	} {
		if k, content, used, e := codec.Open(c.b); k != 0 || len(content) != 0 || used != 0 || e != c.want {
			t.Errorf("case %d: Open returns %d, %x, %d, %d", i, k, content, used, e)
		}
	}
}

// P5.7: what was put is taken.
func TestRoundTrip(t *testing.T) {
	state := uint64(5)
	for n := range 200 {
		var l []int
		var words [][]int
		for range n % 70 {
			var x uint64
			x, state = random.Next(state)
			l = append(l, int(x)>>(x%64))
			words = append(words, slices.Clone(l[len(l)/2:]))
		}
		content := drawn(state, n)
		ints, list, frame := codec.PutInts(l), codec.PutWords(words), codec.Seal(n, content)
		if m, used, e := codec.TakeInts(follow(ints, tail)); !slices.Equal(m, l) || used != len(ints) || e != api.OK {
			t.Errorf("TakeInts of the encoding of %v returns %v, %d, %d", l, m, used, e)
		}
		if m, used, e := codec.TakeWords(follow(list, tail)); !slices.EqualFunc(m, words, slices.Equal[[]int]) || used != len(list) || e != api.OK {
			t.Errorf("TakeWords of the encoding of %v returns %v, %d, %d", words, m, used, e)
		}
		if k, c, used, e := codec.Open(follow(frame, tail)); k != n || !bytes.Equal(c, content) || used != len(frame) || e != api.OK {
			t.Errorf("Open of a frame of the kind %d returns %d, %x, %d, %d", n, k, c, used, e)
		}
		for _, x := range l {
			b := codec.PutInt(x)
			if y, used, e := codec.TakeInt(follow(b, tail)); y != x || used != len(b) || e != api.OK {
				t.Errorf("TakeInt of the encoding of %d returns %d, %d, %d", x, y, used, e)
			}
		}
	}
}

// short returns all lists of at most n bytes from some that matter.
func short(n int) [][]byte {
	all := [][]byte{nil}
	for i := 0; len(all[i]) < n; i++ {
		for _, x := range []byte{0, 1, 2, 4, 0x7f, 0x80, 0x82, 0xff} {
			all = append(all, follow(all[i], []byte{x}))
		}
	}
	return all
}

// P5.7: what is taken has exactly the bytes that putting it returns, and R10: there is no other form.
func TestOneForm(t *testing.T) {
	for _, b := range short(5) {
		if n, used, e := codec.TakeInt(b); e == api.OK && !bytes.Equal(codec.PutInt(n), b[:used]) {
			t.Errorf("TakeInt of %x returns %d, %d", b, n, used)
		}
		if l, used, e := codec.TakeInts(b); e == api.OK && !bytes.Equal(codec.PutInts(l), b[:used]) {
			t.Errorf("TakeInts of %x returns %v, %d", b, l, used)
		}
		if l, used, e := codec.TakeWords(b); e == api.OK && !bytes.Equal(codec.PutWords(l), b[:used]) {
			t.Errorf("TakeWords of %x returns %v, %d", b, l, used)
		}
		sealed := follow(b, seal(b), tail)
		if k, c, used, e := codec.Open(sealed); e == api.OK && !bytes.Equal(codec.Seal(k, c), sealed[:used]) {
			t.Errorf("Open of %x returns %d, %x, %d", sealed, k, c, used)
		}
	}
}

// P5.8: encodings that are cut off.
func TestCutOff(t *testing.T) {
	for _, c := range numbers {
		list, words := codec.PutInts([]int{c.n, 3, c.n}), codec.PutWords([][]int{{c.n}, nil, {1, c.n}})
		frame := codec.Seal(c.n, words)
		for i := range c.b {
			if n, used, e := codec.TakeInt(c.b[:i]); n != 0 || used != 0 || e != api.ErrTruncated {
				t.Errorf("TakeInt of %x returns %d, %d, %d", c.b[:i], n, used, e)
			}
		}
		for i := range list {
			if l, used, e := codec.TakeInts(list[:i]); len(l) != 0 || used != 0 || e != api.ErrTruncated {
				t.Errorf("TakeInts of %x returns %v, %d, %d", list[:i], l, used, e)
			}
		}
		for i := range words {
			if l, used, e := codec.TakeWords(words[:i]); len(l) != 0 || used != 0 || e != api.ErrTruncated {
				t.Errorf("TakeWords of %x returns %v, %d, %d", words[:i], l, used, e)
			}
		}
		for i := range frame {
			if k, l, used, e := codec.Open(frame[:i]); k != 0 || len(l) != 0 || used != 0 || e != api.ErrTruncated {
				t.Errorf("Open of %x returns %d, %x, %d, %d", frame[:i], k, l, used, e)
			}
		}
	}
}

// P5.8: frames in which one byte is changed.
func TestChangedByte(t *testing.T) {
	for _, n := range []int{0, 1, 5, 70} {
		frame := codec.Seal(3, drawn(4, n))
		b := follow(frame, tail, frame)
		for i := range frame {
			for x := 1; x < 256; x++ {
				b[i] ^= byte(x)
				if _, _, used, e := codec.Open(b); e == api.OK && used == len(frame) {
					t.Errorf("Open of %x returns a frame, although the byte %d has changed", b, i)
				}
				b[i] ^= byte(x)
			}
		}
	}
}

// P5.8: where a changed byte leads to a frame of another length.
func TestChangedLength(t *testing.T) {
	inner := codec.Seal(3, []byte("ab"))
	frame := codec.Seal(3, inner[2:])
	frame[1] = inner[1]
	if k, c, used, e := codec.Open(frame); k != 3 || string(c) != "ab" || used != len(inner) || e != api.OK {
		t.Errorf("Open returns %d, %x, %d, %d", k, c, used, e)
	}
}

// R5: arguments and the memory after them do not change, and results are new memory.
func TestMemory(t *testing.T) {
	store := codec.Seal(2, codec.PutWords([][]int{{1, 2}, {3}}))
	before := slices.Clone(store)
	_, content, used, _ := codec.Open(store)
	codec.Seal(2, store[:2])
	again, _, _ := codec.TakeWords(content)
	words, _, _ := codec.TakeWords(content)
	for i := range content {
		content[i] = 0x55
	}
	words[0] = append(words[0], 9)
	words[0][0] = 8
	if !bytes.Equal(store, before) || used != len(before) {
		t.Errorf("the frame has become %x", store)
	}
	if !slices.EqualFunc(again, [][]int{{1, 2}, {3}}, slices.Equal[[]int]) || !slices.Equal(words[1], []int{3}) {
		t.Error("the words have become", again, words)
	}
	l := []int{1, 2, 3}
	codec.PutInts(l[:2])
	codec.PutWords([][]int{l[:1]})
	if !slices.Equal(l, []int{1, 2, 3}) {
		t.Error("the list has become", l)
	}
}
