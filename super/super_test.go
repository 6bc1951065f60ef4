package super_test

import (
	"bytes"
	"encoding/binary"
	"math"
	"slices"
	"strings"
	"testing"

	"apograph/api"
	"apograph/dev"
	"apograph/super"
)

// some are supers with all kinds of numbers; their Epochs rise, and none is 0.
func some() []api.Super {
	const most = math.MaxUint32
	return []api.Super{
		{Epoch: 1},
		{Epoch: 2, Start: 1, Pages: 2, Size: 3},
		{Epoch: 255, Start: most},
		{Epoch: 256, Pages: most},
		{Epoch: math.MaxUint32, Size: most},
		{Epoch: math.MaxUint32 + 1, Start: most, Pages: most, Size: most},
		{Epoch: 0x0102030405060708, Start: 0x090a0b0c, Pages: 0x0d0e0f10, Size: 0x11121314},
		{Epoch: 1 << 63, Start: 1 << 31, Pages: 1 << 16, Size: 1 << 8},
		{Epoch: math.MaxUint64 - 1, Start: 7, Pages: 8, Size: 9},
		{Epoch: math.MaxUint64, Start: most, Pages: most, Size: most},
	}
}

// meant is a super's bytes, made by the library.
func meant(s api.Super) []byte {
	var b []byte
	b = binary.BigEndian.AppendUint64(b, s.Epoch)
	b = binary.BigEndian.AppendUint32(b, s.Start)
	b = binary.BigEndian.AppendUint32(b, s.Pages)
	b = binary.BigEndian.AppendUint32(b, s.Size)
	b = append(b, "apog"...)
	return binary.BigEndian.AppendUint64(b, s.Epoch)
}

func is(t *testing.T, b []byte, want api.Super) {
	t.Helper()
	if got, ok := super.Of(b); !ok || got != want {
		t.Fatalf("Of(%v): %v, %v, not %v", b, got, ok, want)
	}
}

func isNone(t *testing.T, b []byte) {
	t.Helper()
	if got, ok := super.Of(b); ok || got != (api.Super{}) {
		t.Fatalf("Of(%v): %v, %v, not none", b, got, ok)
	}
}

// loads asks for what Load tells, and that it changes nothing.
func loads(t *testing.T, d *dev.Dev, want api.Super, wantErr api.Errno) {
	t.Helper()
	cached, dead := d.Cached(), d.Dead()
	for range 2 {
		if got, e := super.Load(d); got != want || e != wantErr {
			t.Fatalf("Load: %v, %d, not %v, %d", got, e, want, wantErr)
		}
	}
	if d.Cached() != cached || d.Dead() != dead {
		t.Fatalf("Load changed the device: %d cached, dead %v", d.Cached(), d.Dead())
	}
}

func saves(t *testing.T, d *dev.Dev, s api.Super, want api.Errno) {
	t.Helper()
	if e := super.Save(d, s); e != want {
		t.Fatalf("Save(%v): %d, not %d", s, e, want)
	}
}

func write(t *testing.T, d *dev.Dev, at int, b []byte) {
	t.Helper()
	if e := d.Write(at, b); e != api.OK {
		t.Fatalf("Write(%d): %d", at, e)
	}
}

func reads(t *testing.T, d *dev.Dev, at int, want []byte) {
	t.Helper()
	if got, e := d.Read(at); e != api.OK || !bytes.Equal(got, want) {
		t.Fatalf("Read(%d): %v, %d, not %v", at, got, e, want)
	}
}

// with is a device of two sectors, which has these bytes in them.
func with(t *testing.T, first, second []byte) *dev.Dev {
	t.Helper()
	d := dev.New(2)
	write(t, d, 0, first)
	write(t, d, 1, second)
	if e := d.Flush(); e != api.OK {
		t.Fatalf("Flush: %d", e)
	}
	return d
}

func full(c byte) []byte {
	return bytes.Repeat([]byte{c}, 32)
}

// lose is a crash that keeps nothing and tears nothing.
func lose() api.Fate {
	return api.Fate{Torn: -1}
}

func TestExamples(t *testing.T) {
	for _, s := range some() {
		is(t, super.Put(s), s)
	}
}

func TestP5_1Put(t *testing.T) {
	s := api.Super{Epoch: 0x0102030405060708, Start: 0x090a0b0c, Pages: 0x0d0e0f10, Size: 0x11121314}
	want := "\x01\x02\x03\x04\x05\x06\x07\x08\x09\x0a\x0b\x0c\x0d\x0e\x0f\x10\x11\x12\x13\x14apog\x01\x02\x03\x04\x05\x06\x07\x08"
	if got := super.Put(s); string(got) != want {
		t.Fatalf("Put(%v): %q, not %q", s, got, want)
	}
	zero := strings.Repeat("\x00", 20) + "apog" + strings.Repeat("\x00", 8)
	if got := super.Put(api.Super{}); string(got) != zero {
		t.Fatalf("Put of zero: %q, not %q", got, zero)
	}
	high := strings.Repeat("\xff", 20) + "apog" + strings.Repeat("\xff", 8)
	most := api.Super{Epoch: math.MaxUint64, Start: math.MaxUint32, Pages: math.MaxUint32, Size: math.MaxUint32}
	if got := super.Put(most); string(got) != high {
		t.Fatalf("Put of the greatest: %q, not %q", got, high)
	}
	for _, s := range append(some(), api.Super{Start: 1, Pages: 2, Size: 3}) {
		if got := super.Put(s); !bytes.Equal(got, meant(s)) {
			t.Fatalf("Put(%v): %v, not %v", s, got, meant(s))
		}
	}
}

// Each number at each of its bits, so that no byte of any stands in another's place.
func TestP5_1PutBits(t *testing.T) {
	for bit := range 64 {
		all := []api.Super{{Epoch: 1 << bit}}
		if bit < 32 {
			all = append(all, api.Super{Start: 1 << bit}, api.Super{Pages: 1 << bit}, api.Super{Size: 1 << bit})
		}
		for _, s := range all {
			if got := super.Put(s); !bytes.Equal(got, meant(s)) {
				t.Fatalf("Put(%v): %v, not %v", s, got, meant(s))
			}
		}
	}
}

func TestP5_1Of(t *testing.T) {
	for _, s := range some() {
		b := meant(s)
		is(t, b, s)
		is(t, b, s)
		if !bytes.Equal(b, meant(s)) {
			t.Fatal("Of changed what it was given")
		}
	}
}

func TestP5_1OfOtherSizes(t *testing.T) {
	isNone(t, nil)
	isNone(t, []byte{})
	for _, s := range some() {
		b := meant(s)
		for size := range 32 {
			isNone(t, b[:size])
			isNone(t, b[32-size:])
		}
		isNone(t, append(slices.Clone(b), 0))
		isNone(t, append([]byte{0}, b...))
		isNone(t, append(slices.Clone(b), b...))
	}
}

func TestP5_1OfEpochZero(t *testing.T) {
	isNone(t, make([]byte, 32))
	isNone(t, super.Put(api.Super{}))
	isNone(t, super.Put(api.Super{Start: 1, Pages: 2, Size: 3}))
}

// A byte that is changed is another number, or there is no super any more.
func TestP5_1OfOneByteChanged(t *testing.T) {
	for _, s := range some() {
		for at := range 32 {
			for by := 1; by < 256; by++ {
				b := meant(s)
				b[at] ^= byte(by)
				if at < 8 || at >= 20 {
					isNone(t, b)
					continue
				}
				want := s
				shift := 8 * (3 - at%4)
				switch at / 4 {
				case 2:
					want.Start ^= uint32(by) << shift
				case 3:
					want.Pages ^= uint32(by) << shift
				case 4:
					want.Size ^= uint32(by) << shift
				}
				is(t, b, want)
			}
		}
	}
}

func TestP5_1OfEpochsUnlike(t *testing.T) {
	s := api.Super{Epoch: 0x0102030405060708, Start: 1, Pages: 2, Size: 3}
	for at := range 8 {
		for _, half := range []int{0, 24} {
			b := meant(s)
			b[half+at]++
			isNone(t, b)
			b[24-half+at]++
			like := s
			like.Epoch += 1 << (8 * (7 - at))
			is(t, b, like)
		}
	}
	zeroFirst, zeroLast := meant(s), meant(s)
	clear(zeroFirst[:8])
	clear(zeroLast[24:])
	isNone(t, zeroFirst)
	isNone(t, zeroLast)
}

func TestP5_1OfOtherWord(t *testing.T) {
	for _, word := range []string{"apoh", "Apog", "APOG", "gopa", "pago", "opag", "apo\x00", "\x00\x00\x00\x00", "    "} {
		b := meant(api.Super{Epoch: 5, Start: 1, Pages: 2, Size: 3})
		copy(b[20:], word)
		isNone(t, b)
	}
	moved := meant(api.Super{Epoch: 5, Start: 0x61706f67, Pages: 0x61706f67, Size: 0x61706f67})
	is(t, moved, api.Super{Epoch: 5, Start: 0x61706f67, Pages: 0x61706f67, Size: 0x61706f67})
	clear(moved[20:24])
	isNone(t, moved)
}

func TestP5_2LoadNoSectors(t *testing.T) {
	loads(t, nil, api.Super{}, api.ErrRange)
	loads(t, &dev.Dev{}, api.Super{}, api.ErrRange)
	loads(t, dev.New(0), api.Super{}, api.ErrRange)
	loads(t, dev.New(-1), api.Super{}, api.ErrRange)
	one := dev.New(1)
	loads(t, one, api.Super{}, api.ErrRange)
	write(t, one, 0, meant(api.Super{Epoch: 2}))
	loads(t, one, api.Super{}, api.ErrRange)
}

func TestP5_2LoadNone(t *testing.T) {
	loads(t, dev.New(2), api.Super{}, api.ErrSuper)
	loads(t, dev.New(65536), api.Super{}, api.ErrSuper)
	zero := meant(api.Super{Start: 1, Pages: 2, Size: 3})
	loads(t, with(t, zero, zero), api.Super{}, api.ErrSuper)
	torn := meant(api.Super{Epoch: 3})
	torn[31]++
	loads(t, with(t, torn, full('x')), api.Super{}, api.ErrSuper)
	elsewhere := dev.New(3)
	write(t, elsewhere, 2, meant(api.Super{Epoch: 4}))
	loads(t, elsewhere, api.Super{}, api.ErrSuper)
}

func TestP5_2LoadGreater(t *testing.T) {
	none := full(0)
	torn := meant(api.Super{Epoch: math.MaxUint64})
	torn[24]--
	for i, low := range some() {
		loads(t, with(t, meant(low), none), low, api.OK)
		loads(t, with(t, none, meant(low)), low, api.OK)
		loads(t, with(t, meant(low), torn), low, api.OK)
		loads(t, with(t, torn, meant(low)), low, api.OK)
		loads(t, with(t, meant(low), meant(low)), low, api.OK)
		for _, high := range some()[i+1:] {
			loads(t, with(t, meant(low), meant(high)), high, api.OK)
			loads(t, with(t, meant(high), meant(low)), high, api.OK)
		}
	}
}

// Nothing but the Epoch counts, and neither of two equal ones is greater: the first stands.
func TestP5_2LoadEqual(t *testing.T) {
	a := api.Super{Epoch: 6, Start: 1, Pages: 9, Size: 1}
	b := api.Super{Epoch: 6, Start: 2, Pages: 1, Size: 9}
	loads(t, with(t, meant(a), meant(b)), a, api.OK)
	loads(t, with(t, meant(b), meant(a)), b, api.OK)
	b.Epoch, b.Start, b.Pages, b.Size = 7, 0, 0, 0
	loads(t, with(t, meant(a), meant(b)), b, api.OK)
	loads(t, with(t, meant(b), meant(a)), b, api.OK)
}

func TestP5_2LoadFaults(t *testing.T) {
	a, b := api.Super{Epoch: 6}, api.Super{Epoch: 7}
	for _, bad := range [][]int{{0}, {1}, {0, 1}} {
		for _, d := range []*dev.Dev{with(t, meant(a), meant(b)), with(t, meant(b), meant(a)), dev.New(2)} {
			was, e := super.Load(d)
			for _, at := range bad {
				d.Fault(at, true)
			}
			loads(t, d, api.Super{}, api.ErrRead)
			for _, at := range bad {
				d.Fault(at, false)
			}
			loads(t, d, was, e)
		}
	}
	other := dev.New(3)
	write(t, other, 1, meant(b))
	other.Fault(2, true)
	loads(t, other, b, api.OK)
}

// The first error is that of sector 0, whatever ails sector 1.
func TestP5_2LoadFirstError(t *testing.T) {
	one := dev.New(1)
	one.Fault(0, true)
	loads(t, one, api.Super{}, api.ErrRead)
}

func TestP5_2LoadDead(t *testing.T) {
	d := with(t, meant(api.Super{Epoch: 6}), meant(api.Super{Epoch: 7}))
	d.Fault(0, true)
	d.Arm(0)
	if e := d.Flush(); e != api.ErrDev {
		t.Fatal(e)
	}
	loads(t, d, api.Super{}, api.ErrDev)
	d.Crash(lose())
	d.Fault(0, false)
	loads(t, d, api.Super{Epoch: 7}, api.OK)
	empty := dev.New(0)
	empty.Arm(0)
	empty.Flush()
	loads(t, empty, api.Super{}, api.ErrDev)
}

// What is cached is read, until a crash loses it; an armed device is read without a count.
func TestP5_2LoadCached(t *testing.T) {
	d := dev.New(2)
	s := api.Super{Epoch: 8, Start: 1, Pages: 2, Size: 3}
	write(t, d, 0, meant(s))
	d.Arm(1)
	loads(t, d, s, api.OK)
	if e := d.Flush(); e != api.OK {
		t.Fatal("Load took a step of an armed device")
	}
	later := api.Super{Epoch: 9}
	d.Arm(-1)
	write(t, d, 1, meant(later))
	loads(t, d, later, api.OK)
	d.Crash(lose())
	loads(t, d, s, api.OK)
}

func TestP5_2Save(t *testing.T) {
	for _, s := range append(some(), api.Super{}, api.Super{Start: 1, Pages: 2, Size: 3}) {
		d := dev.New(4)
		for at := range 4 {
			write(t, d, at, full('x'))
		}
		saves(t, d, s, api.OK)
		if d.Cached() != 0 {
			t.Fatalf("%d cached behind a Save", d.Cached())
		}
		for at := range 4 {
			want := full('x')
			if uint64(at) == s.Epoch%2 {
				want = meant(s)
			}
			reads(t, d, at, want)
		}
		if s.Epoch == 0 {
			loads(t, d, api.Super{}, api.ErrSuper)
		} else {
			loads(t, d, s, api.OK)
		}
	}
}

// Whatever Epoch is given is saved: Save asks for none that rises.
func TestP5_2SaveAnyEpoch(t *testing.T) {
	d := dev.New(2)
	saves(t, d, api.Super{Epoch: 9, Start: 1}, api.OK)
	saves(t, d, api.Super{Epoch: 4, Start: 2}, api.OK)
	loads(t, d, api.Super{Epoch: 9, Start: 1}, api.OK)
	saves(t, d, api.Super{Epoch: 3, Start: 3}, api.OK)
	loads(t, d, api.Super{Epoch: 4, Start: 2}, api.OK)
	saves(t, d, api.Super{Epoch: 4, Start: 4}, api.OK)
	loads(t, d, api.Super{Epoch: 4, Start: 4}, api.OK)
	saves(t, d, api.Super{}, api.OK)
	loads(t, d, api.Super{Epoch: 3, Start: 3}, api.OK)
}

func TestP5_2SaveNoSector(t *testing.T) {
	for _, epoch := range []uint64{1, 2} {
		s := api.Super{Epoch: epoch}
		saves(t, nil, s, api.ErrRange)
		saves(t, &dev.Dev{}, s, api.ErrRange)
		saves(t, dev.New(0), s, api.ErrRange)
		saves(t, dev.New(-5), s, api.ErrRange)
	}
	one := dev.New(1)
	write(t, one, 0, full('x'))
	saves(t, one, api.Super{Epoch: 7}, api.ErrRange)
	if one.Cached() != 0 {
		t.Fatal("the first Flush was left out")
	}
	reads(t, one, 0, full('x'))
	saves(t, one, api.Super{Epoch: 8}, api.OK)
	reads(t, one, 0, meant(api.Super{Epoch: 8}))
}

// A fault hinders reading alone.
func TestP5_2SaveFault(t *testing.T) {
	d := dev.New(2)
	d.Fault(0, true)
	d.Fault(1, true)
	saves(t, d, api.Super{Epoch: 8}, api.OK)
	saves(t, d, api.Super{Epoch: 9}, api.OK)
	d.Fault(0, false)
	d.Fault(1, false)
	reads(t, d, 0, meant(api.Super{Epoch: 8}))
	reads(t, d, 1, meant(api.Super{Epoch: 9}))
}

func TestP5_2SaveDead(t *testing.T) {
	d := dev.New(0)
	d.Arm(0)
	d.Flush()
	saves(t, d, api.Super{Epoch: 1}, api.ErrDev)
	d = with(t, full('x'), full('y'))
	d.Arm(0)
	d.Flush()
	saves(t, d, api.Super{Epoch: 1}, api.ErrDev)
	saves(t, d, api.Super{Epoch: 2}, api.ErrDev)
	if !d.Dead() || d.Cached() != 0 {
		t.Fatal("a Save woke a dead device, or wrote to it")
	}
	d.Crash(lose())
	reads(t, d, 0, full('x'))
	reads(t, d, 1, full('y'))
}

// A Save is a Flush, a Write and a Flush: the device is armed to die of each of them.
func TestP5_2SaveSteps(t *testing.T) {
	for steps := range 4 {
		d := dev.New(4)
		write(t, d, 2, full('x'))
		write(t, d, 3, full('y'))
		d.Arm(steps)
		s := api.Super{Epoch: 6, Start: 1, Pages: 2, Size: 3}
		want := api.ErrDev
		if steps == 3 {
			want = api.OK
		}
		saves(t, d, s, want)
		if d.Dead() != (steps < 3) {
			t.Fatalf("armed with %d: dead %v", steps, d.Dead())
		}
		if cached := []int{2, 0, 1, 0}[steps]; d.Cached() != cached {
			t.Fatalf("armed with %d: %d cached, not %d", steps, d.Cached(), cached)
		}
		d.Crash(lose())
		others, saved := [][]byte{full('x'), full('y')}, full(0)
		if steps == 0 {
			others = [][]byte{full(0), full(0)}
		}
		if steps == 3 {
			saved = meant(s)
		}
		reads(t, d, 0, saved)
		reads(t, d, 1, full(0))
		reads(t, d, 2, others[0])
		reads(t, d, 3, others[1])
	}
}

// A Save that went well takes three steps of an armed device, no more.
func TestP5_2SaveThreeSteps(t *testing.T) {
	d := dev.New(2)
	d.Arm(4)
	saves(t, d, api.Super{Epoch: 1}, api.OK)
	if e := d.Flush(); e != api.OK {
		t.Fatal("a fourth step")
	}
	if e := d.Flush(); e != api.ErrDev {
		t.Fatal("fewer than three steps")
	}
}

// fates are all that a crash can make of one cached write: lost, kept, torn behind each number of bytes.
func fates() []api.Fate {
	l := []api.Fate{lose(), {Keep: []bool{true}, Torn: -1}, {Torn: 0, Bytes: -1}, {Torn: 0, Bytes: 33}}
	for size := range 33 {
		l = append(l, api.Fate{Torn: 0, Bytes: size})
	}
	return l
}

// told is what Load tells; a device without a super tells none.
func told(t *testing.T, d *dev.Dev) api.Super {
	t.Helper()
	s, e := super.Load(d)
	if e != api.OK && (e != api.ErrSuper || s != api.Super{}) {
		t.Fatalf("Load: %v, %d", s, e)
	}
	return s
}

// after is the super to be saved next: Epoch one more, all numbers others.
func after(was api.Super, n int) api.Super {
	return api.Super{Epoch: was.Epoch + 1, Start: ^was.Start + uint32(n), Pages: was.Pages + 0x01010101, Size: ^was.Size}
}

// strike lets a device die within a Save, behind so many steps, and lets it crash.
func strike(d *dev.Dev, s api.Super, steps int, f api.Fate) api.Errno {
	d.Arm(steps)
	e := super.Save(d, s)
	d.Crash(f)
	return e
}

// struck asks for P5.3 on a copy, which is handed back: Load tells what it told ahead, or what was saved.
func struck(t *testing.T, d *dev.Dev, s api.Super, steps int, f api.Fate) *dev.Dev {
	t.Helper()
	was := told(t, d)
	c := d.Copy()
	if e := strike(c, s, steps, f); e != api.ErrDev {
		t.Fatalf("a Save of which the device died: %d", e)
	}
	now := told(t, c)
	if now != was && now != s {
		t.Fatalf("%v, then %v, %d steps, %v: Load tells %v", was, s, steps, f, now)
	}
	whole := steps == 2 && (f.Torn == 0 && f.Bytes >= 32 || f.Torn != 0 && len(f.Keep) == 1)
	if whole != (now == s) {
		t.Fatalf("%v, then %v, %d steps, %v: whole %v, but Load tells %v", was, s, steps, f, whole, now)
	}
	return c
}

// went asks for P5.3 behind a Save that went well.
func went(t *testing.T, d *dev.Dev, s api.Super) {
	t.Helper()
	saves(t, d, s, api.OK)
	loads(t, d, s, api.OK)
	d.Crash(api.Fate{Keep: []bool{true}, Torn: 0, Bytes: 9})
	loads(t, d, s, api.OK)
}

func TestP5_3Row(t *testing.T) {
	d := dev.New(2)
	for n := range 700 {
		s := after(told(t, d), n)
		for steps := range 3 {
			for _, f := range fates() {
				struck(t, d, s, steps, f)
			}
		}
		went(t, d, s)
	}
	if last := told(t, d); last.Epoch != 700 {
		t.Fatalf("the last Epoch is %d", last.Epoch)
	}
}

// near are devices with the last two Epochs saved, ahead of the places where bytes of an Epoch carry over.
func near(t *testing.T, epoch uint64) *dev.Dev {
	t.Helper()
	d := dev.New(2)
	saves(t, d, api.Super{Epoch: epoch - 1, Start: 1, Pages: 2, Size: 3}, api.OK)
	saves(t, d, api.Super{Epoch: epoch, Start: 4, Pages: 5, Size: 6}, api.OK)
	return d
}

func TestP5_3Carry(t *testing.T) {
	for shift := 8; shift < 64; shift += 8 {
		for back := uint64(1); back < 4; back++ {
			d := near(t, 1<<shift-back)
			for n := range 5 {
				s := after(told(t, d), n)
				for steps := range 3 {
					for _, f := range fates() {
						struck(t, d, s, steps, f)
					}
				}
				went(t, d, s)
			}
		}
	}
}

// A torn sector is written again, and torn again: the bytes of three supers lie in it.
func TestP5_3Again(t *testing.T) {
	begin := []*dev.Dev{dev.New(2), near(t, 2), near(t, 3), near(t, 254), near(t, 255), near(t, 256), near(t, 1<<32-1)}
	for _, d := range begin {
		for _, first := range fates() {
			once := struck(t, d, after(told(t, d), 1), 2, first)
			for _, second := range fates() {
				twice := struck(t, once, after(told(t, once), 2), 2, second)
				went(t, twice, after(told(t, twice), 3))
			}
		}
	}
}

// What else is cached is kept ahead of the super: whatever crash comes, a super that is told isn't there without it.
func TestP5_3OthersFirst(t *testing.T) {
	for _, f := range append(fates(), api.Fate{Keep: []bool{true, true, true}, Torn: 1, Bytes: 20}) {
		for steps := range 4 {
			d := near(t, 6)
			big := dev.New(5)
			for at := range 2 {
				b, _ := d.Read(at)
				write(t, big, at, b)
			}
			big.Flush()
			for at := 2; at < 5; at++ {
				write(t, big, at, full('x'))
			}
			was := told(t, big)
			s := after(was, 0)
			e := strike(big, s, steps, f)
			now := told(t, big)
			if now != was && now != s || e == api.OK && now != s {
				t.Fatalf("%d steps, %v: Load tells %v", steps, f, now)
			}
			for at := 2; at < 5 && now == s; at++ {
				reads(t, big, at, full('x'))
			}
		}
	}
}

func TestP2NoSharing(t *testing.T) {
	s := api.Super{Epoch: 5, Start: 1, Pages: 2, Size: 3}
	first, second := super.Put(s), super.Put(s)
	copy(first, full('x'))
	first = append(first, 'x')
	if !bytes.Equal(second, meant(s)) || !bytes.Equal(super.Put(s), meant(s)) {
		t.Fatal("what Put answers shares memory with what it answers elsewhere")
	}
	b := append(meant(s), "behind"...)
	got, ok := super.Of(b[:32])
	copy(b, full('y'))
	if !ok || got != s || string(b[32:]) != "behind" {
		t.Fatal("Of looks at what lies behind, or at what was changed afterwards")
	}
	isNone(t, b[:31])
	d := dev.New(2)
	saves(t, d, s, api.OK)
	kept, _ := d.Read(1)
	copy(kept, full('z'))
	loads(t, d, s, api.OK)
}

// Any bytes at all are a super just if they are what a super's numbers are made to.
func FuzzOf(f *testing.F) {
	for _, s := range some() {
		f.Add(meant(s))
		f.Add(meant(s)[1:])
	}
	f.Fuzz(func(t *testing.T, b []byte) {
		if len(b) != 32 || string(b[20:24]) != "apog" || string(b[:8]) != string(b[24:]) || string(b[:8]) == strings.Repeat("\x00", 8) {
			isNone(t, b)
			return
		}
		is(t, b, api.Super{
			Epoch: binary.BigEndian.Uint64(b),
			Start: binary.BigEndian.Uint32(b[8:]),
			Pages: binary.BigEndian.Uint32(b[12:]),
			Size:  binary.BigEndian.Uint32(b[16:]),
		})
	})
}

// Any row of Saves and crashes: each byte is a Save, with when the device dies and what becomes of the write.
func FuzzSaves(f *testing.F) {
	f.Add([]byte{2, 50, 98, 255, 3, 130, 134, 254, 7, 0})
	f.Add(bytes.Repeat([]byte{255, 66, 34}, 100))
	f.Fuzz(func(t *testing.T, moves []byte) {
		d := dev.New(2)
		for n, m := range moves {
			s := after(told(t, d), n)
			if m%4 == 3 {
				went(t, d, s)
				continue
			}
			f := fates()[int(m/4)%len(fates())]
			d = struck(t, d, s, int(m%4), f)
		}
	})
}
