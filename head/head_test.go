package head

import (
	"bytes"
	"math"
	"math/rand"
	"slices"
	"testing"

	"weirhouse/api"
	"weirhouse/sums"
)

// E1: encoding.

func TestWrong(t *testing.T) {
	cases := []struct {
		h    api.Head
		want api.Errno
	}{
		{api.Head{Length: 20}, api.OK},
		{api.Head{Proto: 1, Length: 20}, api.OK},
		{api.Head{Proto: 255, Length: 65535, Mark: 63}, api.OK},
		{api.Head{Proto: 6, Length: 24}, api.OK},
		{api.Head{Proto: 17, Length: 24, SrcPort: 65535, DstPort: 65535}, api.OK},
		{api.Head{Proto: 17, Length: 65535, Mark: 63}, api.OK},
		{api.Head{Proto: 1, Length: api.Mtu + 1}, api.OK},

		{api.Head{Proto: -1, Length: 40}, api.ErrRange},
		{api.Head{Proto: 256, Length: 40}, api.ErrRange},
		{api.Head{Proto: 256 + 6, Length: 40}, api.ErrRange},
		{api.Head{Proto: 6, Length: 40, Mark: -1}, api.ErrRange},
		{api.Head{Proto: 6, Length: 40, Mark: 64}, api.ErrRange},
		{api.Head{Proto: 6, Length: 40, SrcPort: -1}, api.ErrRange},
		{api.Head{Proto: 6, Length: 40, SrcPort: 65536}, api.ErrRange},
		{api.Head{Proto: 17, Length: 40, DstPort: -1}, api.ErrRange},
		{api.Head{Proto: 17, Length: 40, DstPort: 65536}, api.ErrRange},
		{api.Head{Proto: math.MinInt, Length: 40}, api.ErrRange},
		{api.Head{Proto: 6, Length: 40, Mark: math.MaxInt}, api.ErrRange},
		{api.Head{Proto: 6, Length: 40, DstPort: math.MaxInt}, api.ErrRange},

		{api.Head{Proto: 1, Length: 40, SrcPort: 1}, api.ErrForm},
		{api.Head{Proto: 1, Length: 40, DstPort: 1}, api.ErrForm},
		{api.Head{Proto: 0, Length: 40, DstPort: 65535}, api.ErrForm},
		{api.Head{Proto: 5, Length: 40, SrcPort: 1}, api.ErrForm},
		{api.Head{Proto: 7, Length: 40, SrcPort: 1}, api.ErrForm},
		{api.Head{Proto: 16, Length: 40, SrcPort: 1}, api.ErrForm},
		{api.Head{Proto: 18, Length: 40, SrcPort: 1}, api.ErrForm},

		{api.Head{Proto: 1, Length: 19}, api.ErrRange},
		{api.Head{Proto: 1, Length: 0}, api.ErrRange},
		{api.Head{Proto: 1, Length: -20}, api.ErrRange},
		{api.Head{Proto: 1, Length: 65536}, api.ErrRange},
		{api.Head{Proto: 6, Length: 65536}, api.ErrRange},
		{api.Head{Proto: 6, Length: 20}, api.ErrRange},
		{api.Head{Proto: 6, Length: 23}, api.ErrRange},
		{api.Head{Proto: 17, Length: 23}, api.ErrRange},
		{api.Head{Proto: 17, Length: 19}, api.ErrRange},
		{api.Head{Proto: 17, Length: math.MaxInt}, api.ErrRange},
		{api.Head{Proto: 17, Length: math.MinInt}, api.ErrRange},

		// The first error counts: a port out of range comes before a port that
		// must not be there, and that one before a wrong length.
		{api.Head{Proto: 1, Length: 40, SrcPort: 65536}, api.ErrRange},
		{api.Head{Proto: 1, Length: 40, SrcPort: 1, DstPort: -1}, api.ErrRange},
		{api.Head{Proto: 1, Length: 40, SrcPort: -1, DstPort: 1}, api.ErrRange},
		{api.Head{Proto: 1, Length: 40, DstPort: 1, Mark: 64}, api.ErrRange},
		{api.Head{Proto: -1, Length: 40, DstPort: 1}, api.ErrRange},
		{api.Head{Proto: 256, Length: 40, DstPort: 1}, api.ErrRange},
		{api.Head{Proto: 1, Length: 19, DstPort: 1}, api.ErrForm},
		{api.Head{Proto: 1, Length: 65536, SrcPort: 1}, api.ErrForm},
	}
	for _, c := range cases {
		if got := Wrong(c.h); got != c.want {
			t.Errorf("Wrong(%+v) = %d, want %d", c.h, got, c.want)
		}
		b, err := Write(c.h)
		if err != c.want {
			t.Errorf("Write(%+v) gives error %d, want %d", c.h, err, c.want)
		}
		if c.want != api.OK && len(b) != 0 {
			t.Errorf("Write(%+v) gives %d bytes with error %d, want none", c.h, len(b), err)
		}
	}
}

func TestOnlyTwoProtocolsHavePorts(t *testing.T) {
	for proto := range 256 {
		ported := proto == 6 || proto == 17
		want := api.ErrForm
		if ported {
			want = api.OK
		}
		if got := Wrong(api.Head{Proto: proto, Length: 24, DstPort: 9}); got != want {
			t.Errorf("Wrong of protocol %d with a port = %d, want %d", proto, got, want)
		}
		want = api.OK
		if ported {
			want = api.ErrRange
		}
		if got := Wrong(api.Head{Proto: proto, Length: 23}); got != want {
			t.Errorf("Wrong of protocol %d with 23 bytes = %d, want %d", proto, got, want)
		}
	}
}

func TestWrite(t *testing.T) {
	cases := []struct {
		h    api.Head
		want []byte
	}{
		{
			api.Head{Src: [4]byte{172, 16, 10, 99}, Dst: [4]byte{172, 16, 10, 12}, Proto: 1, Length: 20},
			[]byte{69, 0, 0, 20, 0, 0, 0, 0, 64, 1, 0x0e, 0x5a, 172, 16, 10, 99, 172, 16, 10, 12},
		},
		{
			api.Head{Src: [4]byte{10, 0, 0, 1}, Dst: [4]byte{192, 168, 1, 2}, Proto: 17, SrcPort: 1000, DstPort: 53, Length: 30, Mark: 5},
			[]byte{69, 20, 0, 30, 0, 0, 0, 0, 64, 17, 175, 16, 10, 0, 0, 1, 192, 168, 1, 2, 3, 232, 0, 53, 0, 0, 0, 0, 0, 0},
		},
		{
			api.Head{Proto: 6, SrcPort: 65534, DstPort: 258, Length: 24, Mark: 63},
			[]byte{69, 252, 0, 24, 0, 0, 0, 0, 64, 6, 121, 229, 0, 0, 0, 0, 0, 0, 0, 0, 255, 254, 1, 2},
		},
		// The other words add up to 65535, so the checksum is 0.
		{
			api.Head{Src: [4]byte{0x7a, 0xea, 0, 0}, Proto: 1, Length: 20},
			[]byte{69, 0, 0, 20, 0, 0, 0, 0, 64, 1, 0, 0, 0x7a, 0xea, 0, 0, 0, 0, 0, 0},
		},
	}
	for _, c := range cases {
		b, err := Write(c.h)
		if err != api.OK || !bytes.Equal(b, c.want) {
			t.Errorf("Write(%+v) = %v, %d, want %v", c.h, b, err, c.want)
		}
	}
}

func TestMarkIsFourTimesInItsByte(t *testing.T) {
	for mark := range 64 {
		b, err := Write(api.Head{Length: 20, Mark: mark})
		if err != api.OK || int(b[1]) != 4*mark {
			t.Errorf("Write with mark %d gives byte %d, error %d", mark, b[1], err)
		}
	}
}

// randomHead returns a valid header.
func randomHead(r *rand.Rand) api.Head {
	h := api.Head{Proto: []int{6, 17, r.Intn(256)}[r.Intn(3)], Mark: r.Intn(64)}
	h.Length = []int{24, 24 + r.Intn(40), 24 + r.Intn(65536-24), 65535}[r.Intn(4)]
	r.Read(h.Src[:])
	r.Read(h.Dst[:])
	if h.Proto == 6 || h.Proto == 17 {
		h.SrcPort, h.DstPort = r.Intn(65536), r.Intn(65536)
	}
	return h
}

// plainWrite follows the chapter byte by byte.
func plainWrite(h api.Head) []byte {
	b := []byte{69, byte(4 * h.Mark), byte(h.Length / 256), byte(h.Length % 256), 0, 0, 0, 0, 64, byte(h.Proto), 0, 0}
	b = append(b, h.Src[:]...)
	b = append(b, h.Dst[:]...)
	check := sums.Check(b)
	b[10], b[11] = byte(check/256), byte(check%256)
	if h.Proto == 6 || h.Proto == 17 {
		b = append(b, byte(h.SrcPort/256), byte(h.SrcPort%256), byte(h.DstPort/256), byte(h.DstPort%256))
	}
	return append(b, make([]byte, h.Length-len(b))...)
}

func TestHeadersAreReadAsTheyWereWritten(t *testing.T) {
	r := rand.New(rand.NewSource(5))
	for range 2000 {
		h := randomHead(r)
		b, err := Write(h)
		if err != api.OK || !bytes.Equal(b, plainWrite(h)) {
			t.Fatalf("Write(%+v) begins with %v, error %d, want %v", h, b[:24], err, plainWrite(h)[:24])
		}
		back, err := Read(b)
		if err != api.OK || back != h {
			t.Fatalf("Read of what Write(%+v) gives = %+v, %d", h, back, err)
		}
	}
}

// E2: decoding.

// sealed returns a copy of b whose checksum is right for the header length
// that byte 0 gives.
func sealed(b []byte) []byte {
	b = slices.Clone(b)
	b[10], b[11] = 0, 0
	check := sums.Check(b[:4*int(b[0]%16)])
	b[10], b[11] = byte(check/256), byte(check%256)
	return b
}

// changed returns a packet of 24 bytes with a udp header, after change, with
// the right checksum.
func changed(change func(b []byte)) []byte {
	b := []byte{69, 0, 0, 24, 0, 0, 0, 0, 64, 17, 0, 0, 1, 2, 3, 4, 5, 6, 7, 8, 9, 10, 11, 12}
	change(b)
	return sealed(b)
}

func TestRead(t *testing.T) {
	src, dst := [4]byte{1, 2, 3, 4}, [4]byte{5, 6, 7, 8}
	ported := api.Head{Src: src, Dst: dst, Proto: 17, SrcPort: 9*256 + 10, DstPort: 11*256 + 12, Length: 24}
	portless := api.Head{Src: src, Dst: dst, Proto: 17, Length: 24}
	with := func(h api.Head, proto, mark, length int) api.Head {
		h.Proto, h.Mark, h.Length = proto, mark, length
		return h
	}
	cases := []struct {
		name   string
		change func(b []byte)
		want   api.Head
	}{
		{"as it is", func(b []byte) {}, ported},
		{"tcp", func(b []byte) { b[9] = 6 }, with(ported, 6, 0, 24)},
		{"no ports", func(b []byte) { b[9] = 1 }, with(portless, 1, 0, 24)},
		{"protocol 0", func(b []byte) { b[9] = 0 }, with(portless, 0, 0, 24)},
		{"protocol 255", func(b []byte) { b[9] = 255 }, with(portless, 255, 0, 24)},
		{"mark rounded down", func(b []byte) { b[1] = 3 }, ported},
		{"mark 5", func(b []byte) { b[1] = 23 }, with(ported, 17, 5, 24)},
		{"mark 63", func(b []byte) { b[1] = 255 }, with(ported, 17, 63, 24)},
		{"other identification", func(b []byte) { b[4], b[5] = 0xab, 0xcd }, ported},
		{"other time to live", func(b []byte) { b[8] = 0 }, ported},

		// The upper three bits of bytes 6 and 7 are flags and not part of the offset.
		{"first flag", func(b []byte) { b[6] = 0x80 }, ported},
		{"all flags", func(b []byte) { b[6] = 0xe0 }, ported},
		{"lowest bit of the offset", func(b []byte) { b[7] = 1 }, portless},
		{"upper bit of byte 7", func(b []byte) { b[7] = 0x80 }, portless},
		{"lowest bit of byte 6", func(b []byte) { b[6] = 1 }, portless},
		{"highest bit of the offset", func(b []byte) { b[6] = 0x10 }, portless},
		{"flags and offset", func(b []byte) { b[6] = 0xff; b[7] = 0xff }, portless},

		// Without ports there need not be room for them.
		{"20 bytes without ports", func(b []byte) { b[3] = 20; b[9] = 1 }, with(portless, 1, 0, 20)},
		{"20 bytes with an offset", func(b []byte) { b[3] = 20; b[7] = 1 }, with(portless, 17, 0, 20)},
		{"23 bytes with an offset", func(b []byte) { b[3] = 23; b[6] = 1 }, with(portless, 17, 0, 23)},
		{"long header with an offset", func(b []byte) { b[0] = 70; b[7] = 1 }, portless},
		{"long header without ports", func(b []byte) { b[0] = 70; b[9] = 2 }, with(portless, 2, 0, 24)},
	}
	for _, c := range cases {
		if got, err := Read(changed(c.change)); err != api.OK || got != c.want {
			t.Errorf("%s: Read = %+v, %d, want %+v", c.name, got, err, c.want)
		}
	}
}

func TestPortsFollowTheHeaderWhateverItsLength(t *testing.T) {
	for quarters := 5; quarters <= 15; quarters++ {
		size := 4 * quarters
		b := make([]byte, size+10)
		for i := range b {
			b[i] = byte(i)
		}
		b[0], b[2], b[3], b[6], b[7], b[9] = byte(64+quarters), 0, byte(size+4), 0, 0, 6
		want := api.Head{
			Src: [4]byte{12, 13, 14, 15}, Dst: [4]byte{16, 17, 18, 19}, Proto: 6, Length: size + 4,
			SrcPort: size*256 + size + 1, DstPort: (size+2)*256 + size + 3,
		}
		if got, err := Read(sealed(b)); err != api.OK || got != want {
			t.Errorf("header of %d bytes: Read = %+v, %d, want %+v", size, got, err, want)
		}
	}
}

func TestBytesBehindLengthAreIgnored(t *testing.T) {
	b := changed(func(b []byte) {})
	want, _ := Read(b)
	for range 5 {
		b = append(b, 0xff)
		if got, err := Read(b); err != api.OK || got != want {
			t.Errorf("Read of %d bytes = %+v, %d, want %+v", len(b), got, err, want)
		}
	}
}

func TestLengthHasTwoBytes(t *testing.T) {
	for _, length := range []int{255, 256, 257, 0x1234, 65535} {
		b := make([]byte, length)
		b[0], b[2], b[3] = 69, byte(length/256), byte(length%256)
		if got, err := Read(sealed(b)); err != api.OK || got != (api.Head{Length: length}) {
			t.Errorf("Read of %d bytes = %+v, %d", length, got, err)
		}
		if _, err := Read(sealed(b)[:length-1]); err != api.ErrShort {
			t.Errorf("Read of one byte fewer than %d gives error %d, want ErrShort", length, err)
		}
	}
}

func TestReadErrors(t *testing.T) {
	cases := []struct {
		name string
		b    []byte
		want api.Errno
	}{
		{"nil", nil, api.ErrShort},
		{"empty", []byte{}, api.ErrShort},
		{"19 bytes", changed(func(b []byte) {})[:19], api.ErrShort},
		{"20 of 24 bytes", changed(func(b []byte) {})[:20], api.ErrShort},
		{"23 of 24 bytes", changed(func(b []byte) {})[:23], api.ErrShort},
		{"version 3", changed(func(b []byte) { b[0] = 3*16 + 5 }), api.ErrForm},
		{"version 5", changed(func(b []byte) { b[0] = 5*16 + 5 }), api.ErrForm},
		{"version 6", changed(func(b []byte) { b[0] = 6*16 + 5 }), api.ErrForm},
		{"version 12", changed(func(b []byte) { b[0] = 12*16 + 5 }), api.ErrForm},
		{"header of 16 bytes", changed(func(b []byte) { b[0] = 68 }), api.ErrForm},
		{"header of 0 bytes", changed(func(b []byte) { b[0] = 64 }), api.ErrForm},
		{"header of 28 bytes in 24", []byte{71, 0, 0, 24, 19: 0, 23: 0}, api.ErrShort},
		{"length 25 of 24", changed(func(b []byte) { b[3] = 25 }), api.ErrShort},
		{"length 256 of 24", changed(func(b []byte) { b[2], b[3] = 1, 0 }), api.ErrShort},
		{"length 19", changed(func(b []byte) { b[3] = 19 }), api.ErrForm},
		{"length 0", changed(func(b []byte) { b[3] = 0 }), api.ErrForm},
		{"length 23 with a header of 24 bytes", changed(func(b []byte) { b[0] = 70; b[3] = 23 }), api.ErrForm},
		{"zeros", make([]byte, 40), api.ErrForm},
		{"checksum of zeros", []byte{69, 0, 0, 24, 0, 0, 0, 0, 64, 1, 0, 0, 23: 0}, api.ErrSum},
		{"no room for ports", changed(func(b []byte) { b[3] = 20 }), api.ErrShort},
		{"no room for all of the ports", changed(func(b []byte) { b[3] = 23 }), api.ErrShort},
		{"no room behind a long header", changed(func(b []byte) { b[0] = 70 }), api.ErrShort},
	}
	for _, c := range cases {
		if got, err := Read(c.b); err != c.want || got != (api.Head{}) {
			t.Errorf("%s: Read = %+v, %d, want zeros and %d", c.name, got, err, c.want)
		}
	}
}

// Each packet here has two errors, of which the first in the chapter's order
// counts.
func TestReadErrorsComeInOrder(t *testing.T) {
	cases := []struct {
		name string
		b    []byte
		want api.Errno
	}{
		{"19 bytes, version 6", []byte{0x65, 0, 0, 24, 18: 0}, api.ErrShort},
		{"one byte, header of 0 bytes", []byte{64}, api.ErrShort},
		{"version 6, length 25 of 24", []byte{0x65, 0, 0, 25, 23: 0}, api.ErrForm},
		{"version 6, header of 60 bytes in 24", []byte{0x6f, 0, 0, 24, 23: 0}, api.ErrForm},
		{"header of 16 bytes, length 25 of 24", []byte{0x44, 0, 0, 25, 23: 0}, api.ErrForm},
		{"header of 60 bytes in 24, length below it", []byte{0x4f, 0, 0, 10, 23: 0}, api.ErrShort},
		{"length 19, wrong sum", []byte{69, 0, 0, 19, 23: 0}, api.ErrForm},
		{"length 25 of 24, wrong sum", []byte{69, 0, 0, 25, 23: 0}, api.ErrShort},
		{"wrong sum, no room for ports", []byte{69, 0, 0, 20, 9: 17, 23: 0}, api.ErrSum},
	}
	for _, c := range cases {
		if got, err := Read(c.b); err != c.want || got != (api.Head{}) {
			t.Errorf("%s: Read = %+v, %d, want zeros and %d", c.name, got, err, c.want)
		}
	}
}

// plainRead follows the chapter in its order, with none of the helpers.
func plainRead(b []byte) (api.Head, api.Errno) {
	if len(b) < 20 {
		return api.Head{}, api.ErrShort
	}
	size, length := int(b[0]%16)*4, int(b[2])*256+int(b[3])
	ported := (b[9] == 6 || b[9] == 17) && b[6]%32 == 0 && b[7] == 0
	if b[0]/16 != 4 || b[0]%16 < 5 {
		return api.Head{}, api.ErrForm
	}
	if len(b) < size || len(b) < length {
		return api.Head{}, api.ErrShort
	}
	if length < size {
		return api.Head{}, api.ErrForm
	}
	if sums.Of(b[:size]) != 65535 {
		return api.Head{}, api.ErrSum
	}
	if ported && length < size+4 {
		return api.Head{}, api.ErrShort
	}
	h := api.Head{Proto: int(b[9]), Mark: int(b[1]) / 4, Length: length}
	for i := range 4 {
		h.Src[i], h.Dst[i] = b[12+i], b[16+i]
	}
	if ported {
		h.SrcPort, h.DstPort = int(b[size])*256+int(b[size+1]), int(b[size+2])*256+int(b[size+3])
	}
	return h, api.OK
}

func TestReadAgainstThePlainOne(t *testing.T) {
	r := rand.New(rand.NewSource(55))
	seen := map[api.Errno]int{}
	for range 40000 {
		b := make([]byte, 16+r.Intn(60))
		r.Read(b)
		b[0] = []byte{69, byte(68 + r.Intn(12)), byte(r.Intn(256))}[r.Intn(3)]
		b[2], b[3] = 0, byte(len(b)-2+r.Intn(3))
		if r.Intn(3) == 0 {
			b[3] = byte(18 + r.Intn(50))
		}
		b[6], b[7] = byte(r.Intn(8))<<5, byte(r.Intn(2)*r.Intn(256))
		b[9] = []byte{6, 17, b[9]}[r.Intn(3)]
		if size := 4 * int(b[0]%16); 20 <= size && size <= len(b) && r.Intn(4) > 0 {
			b = sealed(b)
		}
		want, wantErr := plainRead(b)
		got, err := Read(b)
		if got != want || err != wantErr {
			t.Fatalf("Read(%v) = %+v, %d, want %+v, %d", b, got, err, want, wantErr)
		}
		seen[err]++
	}
	for _, err := range []api.Errno{api.OK, api.ErrForm, api.ErrSum, api.ErrShort} {
		if seen[err] < 500 {
			t.Errorf("only %d of the packets give error %d", seen[err], err)
		}
	}
}

func TestSingleByteErrorsInHeadersAreDetected(t *testing.T) {
	r := rand.New(rand.NewSource(6))
	for range 50 {
		h := randomHead(r)
		h.Length = 24 + r.Intn(100)
		b, _ := Write(h)
		for i := range 20 {
			right := b[i]
			for wrong := range 256 {
				b[i] = byte(wrong)
				if _, err := Read(b); (err == api.OK) != (b[i] == right) {
					t.Fatalf("byte %d of %v, which was %d: Read gives error %d", i, b[:20], right, err)
				}
			}
			b[i] = right
		}
	}
}

// AA2: the bytes are left as they are, and those behind them are not read;
// packets are new memory.

func TestReadLeavesTheBytesAndIgnoresSpareOnes(t *testing.T) {
	whole := changed(func(b []byte) {})
	before := slices.Clone(whole)
	for n := range len(whole) {
		if got, err := Read(whole[:n]); err != api.ErrShort || got != (api.Head{}) {
			t.Errorf("Read of the first %d of 24 bytes = %+v, %d, want zeros and ErrShort", n, got, err)
		}
	}
	if _, err := Read(whole); err != api.OK {
		t.Errorf("Read of all bytes gives error %d", err)
	}
	if !slices.Equal(whole, before) {
		t.Errorf("the bytes are %v after the calls, want %v", whole, before)
	}
}

func TestWrittenPacketsShareNoMemory(t *testing.T) {
	h := api.Head{Proto: 17, SrcPort: 1, DstPort: 2, Length: 40}
	first, _ := Write(h)
	for i := range first {
		first[i] = 0xee
	}
	second, err := Write(h)
	if err != api.OK || !bytes.Equal(second, plainWrite(h)) {
		t.Errorf("Write(%+v) = %v, %d after its first result was overwritten", h, second, err)
	}
}
