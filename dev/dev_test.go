package dev_test

import (
	"bytes"
	"math"
	"slices"
	"strings"
	"testing"

	"apograph/api"
	"apograph/dev"
)

// full is a sector's bytes, all of them c.
func full(c byte) []byte {
	return bytes.Repeat([]byte{c}, 32)
}

func write(t *testing.T, d *dev.Dev, at int, c byte) {
	t.Helper()
	if e := d.Write(at, full(c)); e != api.OK {
		t.Fatalf("Write(%d, %q..): %d", at, c, e)
	}
}

func flush(t *testing.T, d *dev.Dev) {
	t.Helper()
	if e := d.Flush(); e != api.OK {
		t.Fatalf("Flush: %d", e)
	}
}

// wants asks for one sector's bytes.
func wants(t *testing.T, d *dev.Dev, at int, want string) {
	t.Helper()
	got, e := d.Read(at)
	if e != api.OK || string(got) != want {
		t.Fatalf("Read(%d): %q, %d, not %q", at, got, e, want)
	}
}

// has asks for all sectors of a device: each is full of the byte of text that stands in its place ('.' is a 0).
func has(t *testing.T, d *dev.Dev, text string) {
	t.Helper()
	if d.Size() != len(text) {
		t.Fatalf("Size: %d, not %d", d.Size(), len(text))
	}
	for at := range len(text) {
		c := text[at]
		if c == '.' {
			c = 0
		}
		wants(t, d, at, string(full(c)))
	}
}

func cached(t *testing.T, d *dev.Dev, want int) {
	t.Helper()
	if got := d.Cached(); got != want {
		t.Fatalf("Cached: %d, not %d", got, want)
	}
}

// fails asks for an error of a Read, with no bytes beside it.
func fails(t *testing.T, d *dev.Dev, at int, want api.Errno) {
	t.Helper()
	if got, e := d.Read(at); e != want || got != nil {
		t.Fatalf("Read(%d): %v, %d, not nil, %d", at, got, e, want)
	}
}

// dead is a device of so many sectors that died of a Write, with nothing cached.
func dead(t *testing.T, n int) *dev.Dev {
	t.Helper()
	d := dev.New(n)
	d.Arm(0)
	if e := d.Write(0, full('x')); e != api.ErrDev {
		t.Fatalf("the Write it dies of: %d", e)
	}
	return d
}

// outside is places that a device of n sectors hasn't.
func outside(n int) []int {
	return []int{-1, n, n + 1, -n - 1, math.MaxInt, math.MinInt, math.MaxInt32, math.MinInt32, 1 << 32, -1 << 32, 65536, 65537}
}

func TestExamples(t *testing.T) {
	d := dev.New(2)
	write(t, d, 0, 'a')
	d.Crash(api.Fate{})
	has(t, d, "..")
	cached(t, d, 0)
}

func TestP4_1New(t *testing.T) {
	for _, c := range []struct{ n, size int }{
		{math.MinInt, 0}, {-65536, 0}, {-1, 0}, {0, 0}, {1, 1}, {2, 2}, {1000, 1000},
		{65535, 65535}, {65536, 65536}, {65537, 65536}, {1 << 32, 65536}, {math.MaxInt, 65536},
	} {
		d := dev.New(c.n)
		if d == nil || d.Size() != c.size {
			t.Fatalf("New(%d): %d sectors, not %d", c.n, d.Size(), c.size)
		}
		if d.Cached() != 0 || d.Dead() {
			t.Fatalf("New(%d): %d cached, Dead %v", c.n, d.Cached(), d.Dead())
		}
		for at := range c.size {
			wants(t, d, at, strings.Repeat("\x00", 32))
		}
		fails(t, d, -1, api.ErrRange)
		fails(t, d, c.size, api.ErrRange)
		flush(t, d)
	}
}

func TestP4_1Write(t *testing.T) {
	d := dev.New(3)
	for i, at := range []int{0, 2, 1, 2, 2} {
		cached(t, d, i)
		write(t, d, at, byte('a'+i))
	}
	cached(t, d, 5)
	has(t, d, "ace")
	for _, b := range [][]byte{nil, {}, full('x')[:1], full('x')[:31], append(full('x'), 'x'), bytes.Repeat(full('x'), 2)} {
		for at := range 3 {
			if e := d.Write(at, b); e != api.ErrRange {
				t.Fatalf("Write of %d bytes: %d", len(b), e)
			}
		}
	}
	for _, at := range outside(3) {
		if e := d.Write(at, full('x')); e != api.ErrRange {
			t.Fatalf("Write(%d, ..): %d", at, e)
		}
		if e := d.Write(at, nil); e != api.ErrRange {
			t.Fatalf("Write(%d, nil): %d", at, e)
		}
	}
	cached(t, d, 5)
	has(t, d, "ace")
	flush(t, d)
	has(t, d, "ace")
}

func TestP4_1WriteLastSector(t *testing.T) {
	d := dev.New(65536)
	write(t, d, 65535, 'z')
	write(t, d, 0, 'a')
	wants(t, d, 65535, string(full('z')))
	flush(t, d)
	wants(t, d, 65535, string(full('z')))
	wants(t, d, 0, string(full('a')))
	wants(t, d, 65534, string(full(0)))
	if e := d.Write(65536, full('z')); e != api.ErrRange {
		t.Fatal(e)
	}
}

func TestP4_1WriteAllBytes(t *testing.T) {
	d := dev.New(1)
	b := make([]byte, 32)
	for i := range b {
		b[i] = byte(255 - 7*i)
	}
	if e := d.Write(0, b); e != api.OK {
		t.Fatal(e)
	}
	wants(t, d, 0, string(b))
	flush(t, d)
	wants(t, d, 0, string(b))
	d.Crash(api.Fate{})
	wants(t, d, 0, string(b))
}

func TestP4_1Read(t *testing.T) {
	d := dev.New(3)
	write(t, d, 1, 'a')
	write(t, d, 1, 'b')
	has(t, d, ".b.")
	write(t, d, 0, 'c')
	write(t, d, 1, 'd')
	has(t, d, "cd.")
	flush(t, d)
	has(t, d, "cd.")
	write(t, d, 1, 'a')
	has(t, d, "ca.")
	write(t, d, 1, 0)
	has(t, d, "c..")
	flush(t, d)
	has(t, d, "c..")
	for _, at := range outside(3) {
		fails(t, d, at, api.ErrRange)
	}
}

func TestP4_1Flush(t *testing.T) {
	d := dev.New(2)
	flush(t, d)
	cached(t, d, 0)
	write(t, d, 0, 'a')
	write(t, d, 0, 'b')
	write(t, d, 1, 'c')
	write(t, d, 0, 'd')
	cached(t, d, 4)
	flush(t, d)
	cached(t, d, 0)
	has(t, d, "dc")
	flush(t, d)
	d.Crash(api.Fate{Keep: []bool{true, true, true, true}, Torn: -1})
	has(t, d, "dc")
}

func TestP4_1NoSectors(t *testing.T) {
	d := dev.New(0)
	for _, at := range append(outside(0), 0) {
		if e := d.Write(at, full('x')); e != api.ErrRange {
			t.Fatal(at, e)
		}
		fails(t, d, at, api.ErrRange)
		d.Fault(at, true)
		fails(t, d, at, api.ErrRange)
	}
	flush(t, d)
	d.Arm(1)
	flush(t, d)
	if e := d.Flush(); e != api.ErrDev || !d.Dead() {
		t.Fatal(e, d.Dead())
	}
	fails(t, d, 0, api.ErrDev)
	d.Crash(api.Fate{})
	flush(t, d)
}

// What is handed in and handed out is nobody else's, and what lies behind a length doesn't count (P2).
func TestP2Memory(t *testing.T) {
	d := dev.New(2)
	in := full('a')
	if e := d.Write(0, in); e != api.OK {
		t.Fatal(e)
	}
	in[0], in[31] = 'x', 'x'
	wants(t, d, 0, string(full('a')))
	for range 2 {
		first, _ := d.Read(0)
		second, _ := d.Read(0)
		untouched, _ := d.Read(1)
		first[0], first[31], untouched[5] = 'y', 'y', 'y'
		if string(second) != string(full('a')) {
			t.Fatalf("another answer was changed: %q", second)
		}
		has(t, d, "a.")
		flush(t, d)
	}
	in[1] = 'z'
	has(t, d, "a.")
	got, _ := d.Read(0)
	if spare := got[len(got):cap(got)]; len(bytes.Trim(spare, "\x00")) > 0 {
		t.Fatalf("behind the answer's length: %q", spare)
	}
}

func TestP2BehindTheLength(t *testing.T) {
	d := dev.New(2)
	room := append(full('a'), full('b')...)
	if e := d.Write(0, room[:31]); e != api.ErrRange {
		t.Fatal(e)
	}
	if e := d.Write(0, room[:32]); e != api.OK {
		t.Fatal(e)
	}
	write(t, d, 1, 'c')
	keep := []bool{true, true}
	d.Crash(api.Fate{Keep: keep[:1], Torn: -1})
	has(t, d, "a.")
	if string(room) != string(full('a'))+string(full('b')) || !slices.Equal(keep, []bool{true, true}) {
		t.Fatal("an argument was changed:", room, keep)
	}
}

func TestP4_2Arm(t *testing.T) {
	for n := range 4 {
		d := dev.New(2)
		d.Arm(n)
		for i := range n {
			if d.Dead() {
				t.Fatalf("Arm(%d): Dead behind %d", n, i)
			}
			if i%2 == 0 {
				write(t, d, 0, byte('a'+i))
			} else {
				flush(t, d)
			}
			for _, at := range outside(2) { // what has ErrRange doesn't count
				if e := d.Write(at, full('x')); e != api.ErrRange {
					t.Fatalf("Arm(%d): Write(%d, ..): %d", n, at, e)
				}
			}
			if e := d.Write(1, full('x')[:31]); e != api.ErrRange {
				t.Fatal(e)
			}
			_, _ = d.Read(0) // nor does a Read
			_, _ = d.Read(2)
		}
		both := d.Copy()
		if e := d.Write(1, full('w')); e != api.ErrDev || !d.Dead() {
			t.Fatalf("Arm(%d): the next Write: %d, Dead %v", n, e, d.Dead())
		}
		if e := both.Flush(); e != api.ErrDev || !both.Dead() {
			t.Fatalf("Arm(%d): the next Flush: %d, Dead %v", n, e, both.Dead())
		}
	}
}

func TestP4_2ArmedWrongWrites(t *testing.T) {
	d := dev.New(1)
	d.Arm(0)
	for range 3 {
		if e := d.Write(1, full('x')); e != api.ErrRange || d.Dead() {
			t.Fatal(e, d.Dead())
		}
		if e := d.Write(0, nil); e != api.ErrRange || d.Dead() {
			t.Fatal(e, d.Dead())
		}
		fails(t, d, 1, api.ErrRange)
		has(t, d, ".")
	}
	if e := d.Write(0, full('x')); e != api.ErrDev || !d.Dead() {
		t.Fatal(e, d.Dead())
	}
}

// The Write or Flush that the device dies of doesn't happen.
func TestP4_2DoesNotHappen(t *testing.T) {
	all := api.Fate{Keep: []bool{true, true, true, true}, Torn: -1}
	d := dev.New(2)
	d.Arm(1)
	write(t, d, 0, 'a')
	if e := d.Write(1, full('b')); e != api.ErrDev {
		t.Fatal(e)
	}
	cached(t, d, 1)
	d.Crash(all)
	has(t, d, "a.")

	d.Arm(2)
	write(t, d, 0, 'b')
	write(t, d, 1, 'c')
	if e := d.Flush(); e != api.ErrDev {
		t.Fatal(e)
	}
	cached(t, d, 2)
	d.Crash(api.Fate{Torn: -1})
	has(t, d, "a.")
}

func TestP4_2ArmNever(t *testing.T) {
	for _, n := range []int{-1, -2, math.MinInt, math.MaxInt, 1000} {
		d := dev.New(1)
		for _, first := range []int{-1, 0, 1} { // the last Arm holds
			d.Arm(first)
			d.Arm(n)
		}
		for i := range 200 {
			write(t, d, 0, byte(i))
			flush(t, d)
		}
		if d.Dead() {
			t.Fatalf("Arm(%d): Dead", n)
		}
	}
	d := dev.New(1)
	d.Arm(5)
	write(t, d, 0, 'a')
	d.Arm(1)
	write(t, d, 0, 'b')
	if e := d.Flush(); e != api.ErrDev {
		t.Fatal("Arm again:", e)
	}
}

func TestP4_2Dead(t *testing.T) {
	d := dev.New(3)
	write(t, d, 1, 'a')
	flush(t, d)
	write(t, d, 0, 'b')
	d.Fault(2, true)
	d.Arm(0)
	if d.Dead() {
		t.Fatal("Dead ahead of the Write")
	}
	if e := d.Flush(); e != api.ErrDev {
		t.Fatal(e)
	}
	for range 2 {
		for _, at := range append(outside(3), 0, 1, 2) {
			fails(t, d, at, api.ErrDev)
			for _, b := range [][]byte{nil, full('x')[:31], full('x'), append(full('x'), 'x')} {
				if e := d.Write(at, b); e != api.ErrDev {
					t.Fatalf("Write(%d, %d bytes): %d", at, len(b), e)
				}
			}
		}
		if e := d.Flush(); e != api.ErrDev {
			t.Fatal(e)
		}
		if !d.Dead() || d.Size() != 3 {
			t.Fatal(d.Dead(), d.Size())
		}
		cached(t, d, 1)
		d.Arm(-1) // doesn't wake it
		d.Arm(7)
	}
	d.Crash(api.Fate{Keep: []bool{true}, Torn: 1})
	if d.Dead() {
		t.Fatal("Dead behind a crash")
	}
	fails(t, d, 2, api.ErrRead)
	d.Fault(2, false)
	has(t, d, "ba.")
	for range 20 { // nor is it armed
		flush(t, d)
	}
}

func TestP4_2CrashDisarms(t *testing.T) {
	for _, n := range []int{0, 1, 5} {
		d := dev.New(1)
		d.Arm(n)
		d.Crash(api.Fate{})
		for i := range 10 {
			write(t, d, 0, byte(i))
			flush(t, d)
		}
	}
}

// fated is a crash of writes to sectors: of each the place and the byte that it is full of.
type fated struct {
	name   string
	writes string // place, byte, place, byte ..
	fate   api.Fate
	want   string // behind it, three sectors of 32 bytes each
}

// part is a sector whose first n bytes are a, the others b.
func part(n int, a, b byte) string {
	return string(full(a)[:n]) + string(full(b)[n:])
}

func TestP4_2Crash(t *testing.T) {
	x, y, z := string(full('x')), string(full('y')), string(full('z')) // what was flushed
	a, b, c := string(full('a')), string(full('b')), string(full('c'))
	yes := []bool{true, true, true, true}
	for _, f := range []fated{
		{"nothing cached", "", api.Fate{Keep: yes, Torn: 0, Bytes: 9}, x + y + z},
		{"none", "0a1b2c", api.Fate{Torn: -1}, x + y + z},
		{"zero fate", "0a1b2c", api.Fate{}, x + y + z},
		{"all", "0a1b2c", api.Fate{Keep: yes, Torn: -1}, a + b + c},
		{"Keep empty", "0a1b2c", api.Fate{Keep: []bool{}, Torn: -1}, x + y + z},
		{"Keep shorter", "0a1b2c", api.Fate{Keep: yes[:2], Torn: -1}, a + b + z},
		{"Keep longer", "0a1b", api.Fate{Keep: yes, Torn: -1}, a + b + z},
		{"Keep mixed", "0a1b2c", api.Fate{Keep: []bool{false, true, false}, Torn: -1}, x + b + z},
		{"Keep the last", "0a1b2c", api.Fate{Keep: []bool{false, false, true}, Torn: -1}, x + y + c},
		{"Torn least", "0a1b2c", api.Fate{Keep: yes, Torn: math.MinInt, Bytes: 3}, a + b + c},
		{"Torn just past", "0a1b2c", api.Fate{Keep: yes, Torn: 3, Bytes: 3}, a + b + c},
		{"Torn past", "0a1b2c", api.Fate{Torn: math.MaxInt, Bytes: 3}, x + y + z},
		{"first torn, kept", "0a1b2c", api.Fate{Keep: yes, Torn: 0, Bytes: 1}, part(1, 'a', 'x') + b + c},
		{"first torn, not kept", "0a1b2c", api.Fate{Torn: 0, Bytes: 1}, part(1, 'a', 'x') + y + z},
		{"last torn", "0a1b2c", api.Fate{Keep: yes[:1], Torn: 2, Bytes: 31}, a + y + part(31, 'c', 'z')},
		{"Bytes least", "1b", api.Fate{Keep: yes, Bytes: math.MinInt}, x + y + z},
		{"Bytes below 0", "1b", api.Fate{Keep: yes, Bytes: -1}, x + y + z},
		{"Bytes 0, kept", "1b", api.Fate{Keep: yes, Bytes: 0}, x + y + z},
		{"Bytes 31", "1b", api.Fate{Keep: yes, Bytes: 31}, x + part(31, 'b', 'y') + z},
		{"Bytes 32, not kept", "1b", api.Fate{Bytes: 32}, x + b + z},
		{"Bytes 33", "1b", api.Fate{Bytes: 33}, x + b + z},
		{"Bytes greatest", "1b", api.Fate{Bytes: math.MaxInt}, x + b + z},
		{"over a kept one", "0a0b", api.Fate{Keep: yes[:1], Torn: 1, Bytes: 5}, part(5, 'b', 'a') + y + z},
		{"over a lost one", "0a0b", api.Fate{Torn: 1, Bytes: 5}, part(5, 'b', 'x') + y + z},
		{"under a kept one", "0a0b0c", api.Fate{Keep: yes, Torn: 1, Bytes: 5}, c + y + z},
		{"under a lost one", "0a0b0c", api.Fate{Keep: yes[:2], Torn: 1, Bytes: 5}, part(5, 'b', 'a') + y + z},
		{"none of it, over a kept one", "0a0b", api.Fate{Keep: yes, Torn: 1}, a + y + z},
		{"all of it, over a kept one", "0a0b", api.Fate{Keep: yes, Torn: 1, Bytes: 32}, b + y + z},
		{"in order", "0a0b0c", api.Fate{Keep: []bool{true, true, false}, Torn: -1}, b + y + z},
		{"back to what it was", "0a0x", api.Fate{Keep: yes, Torn: -1}, x + y + z},
		{"the same again", "0x1b", api.Fate{Keep: yes, Torn: 0, Bytes: 7}, x + b + z},
	} {
		d := dev.New(3)
		for at, c := range []byte("xyz") {
			write(t, d, at, c)
		}
		flush(t, d)
		for i := 0; i < len(f.writes); i += 2 {
			write(t, d, int(f.writes[i]-'0'), f.writes[i+1])
		}
		d.Crash(f.fate)
		cached(t, d, 0)
		for at := range 3 {
			if got, e := d.Read(at); e != api.OK || string(got) != f.want[32*at:32*at+32] {
				t.Errorf("%s: Read(%d): %q, %d, not %q", f.name, at, got, e, f.want[32*at:32*at+32])
			}
		}
	}
}

func TestP4_2CrashTwice(t *testing.T) {
	d := dev.New(1)
	write(t, d, 0, 'a')
	d.Crash(api.Fate{Torn: -1})
	d.Crash(api.Fate{Keep: []bool{true}, Torn: -1}) // what is lost stays lost
	has(t, d, ".")
	write(t, d, 0, 'b')
	cached(t, d, 1)
	d.Crash(api.Fate{Keep: []bool{true}, Torn: -1})
	d.Crash(api.Fate{Torn: 0, Bytes: 5})
	has(t, d, "b")
}

func TestP4_2Fault(t *testing.T) {
	d := dev.New(3)
	d.Fault(1, false) // there is none
	has(t, d, "...")
	d.Fault(1, true)
	d.Fault(1, true)
	fails(t, d, 1, api.ErrRead)
	wants(t, d, 0, string(full(0)))
	wants(t, d, 2, string(full(0)))
	write(t, d, 1, 'a')
	cached(t, d, 1)
	fails(t, d, 1, api.ErrRead) // also with a write cached
	flush(t, d)
	fails(t, d, 1, api.ErrRead)
	write(t, d, 1, 'b')
	d.Crash(api.Fate{Keep: []bool{true}, Torn: -1})
	fails(t, d, 1, api.ErrRead) // and behind a crash
	d.Fault(0, true)
	d.Fault(1, false) // one is enough, however often it was laid
	wants(t, d, 1, string(full('b')))
	fails(t, d, 0, api.ErrRead)
	d.Fault(0, false)
	d.Fault(0, false)
	has(t, d, ".b.")
}

func TestP4_2FaultOutside(t *testing.T) {
	d := dev.New(3)
	for _, at := range outside(3) {
		d.Fault(at, true)
		fails(t, d, at, api.ErrRange)
		d.Fault(at, false)
		fails(t, d, at, api.ErrRange)
	}
	has(t, d, "...")
	flush(t, d)
}

// A fault can be laid and taken away while the device is dead; it is told behind the crash.
func TestP4_2FaultOfADeadOne(t *testing.T) {
	d := dead(t, 2)
	d.Fault(0, true)
	d.Fault(1, true)
	d.Fault(1, false)
	d.Fault(2, true)
	fails(t, d, 0, api.ErrDev)
	d.Crash(api.Fate{})
	fails(t, d, 0, api.ErrRead)
	wants(t, d, 1, string(full(0)))
	fails(t, d, 2, api.ErrRange)
}

func TestP4_2Copy(t *testing.T) {
	d := dev.New(3)
	write(t, d, 0, 'a')
	flush(t, d)
	write(t, d, 1, 'b')
	write(t, d, 1, 'c')
	d.Fault(2, true)
	d.Arm(2)
	c := d.Copy()
	if c == d || c.Size() != 3 || c.Cached() != 2 || c.Dead() {
		t.Fatal(c.Size(), c.Cached(), c.Dead())
	}
	fails(t, c, 2, api.ErrRead)

	c.Fault(2, false)
	c.Fault(0, true)
	fails(t, d, 2, api.ErrRead)
	wants(t, d, 0, string(full('a')))
	c.Fault(0, false)
	has(t, c, "ac.")

	write(t, d, 0, 'd') // each counts its own Writes, and caches its own
	write(t, c, 0, 'e')
	write(t, c, 2, 'f')
	cached(t, d, 3)
	cached(t, c, 4)
	has(t, c, "ecf")
	wants(t, d, 0, string(full('d')))
	flush(t, d)
	if e := c.Flush(); e != api.ErrDev || !c.Dead() || d.Dead() {
		t.Fatal(e, c.Dead(), d.Dead())
	}
	wants(t, d, 0, string(full('d')))

	both := c.Copy() // a copy of a dead one is dead
	if !both.Dead() || both.Cached() != 4 {
		t.Fatal(both.Dead(), both.Cached())
	}
	c.Crash(api.Fate{Keep: []bool{true}, Torn: -1})
	has(t, c, "ab.")
	if !both.Dead() || both.Cached() != 4 {
		t.Fatal(both.Dead(), both.Cached())
	}
	both.Crash(api.Fate{Keep: []bool{true, true, true}, Torn: 3, Bytes: 1})
	has(t, c, "ab.")
	wants(t, both, 0, string(full('e')))
	wants(t, both, 2, part(1, 'f', 0))
}

// Writes that both make behind a Copy don't lie in one room.
func TestP4_2CopyOfTheCache(t *testing.T) {
	for n := range 20 {
		d := dev.New(n + 2)
		for at := range n {
			write(t, d, at, 'a')
		}
		c := d.Copy()
		write(t, d, n, 'b')
		write(t, c, n, 'c')
		write(t, d, n+1, 'd')
		flush(t, c)
		flush(t, d)
		same := strings.Repeat("a", n)
		has(t, d, same+"bd")
		has(t, c, same+"c.")
		write(t, d, 0, 'e')
		flush(t, d)
		wants(t, c, 0, string(full((same + "c")[0])))
	}
}

func TestP4_2CopyArmed(t *testing.T) {
	d := dev.New(1)
	d.Arm(0)
	c := d.Copy()
	d.Arm(-1)
	flush(t, d)
	if e := c.Flush(); e != api.ErrDev {
		t.Fatal(e)
	}
	c.Crash(api.Fate{})
	flush(t, c)
	d.Arm(0)
	flush(t, c)
	if e := d.Flush(); e != api.ErrDev || c.Dead() {
		t.Fatal(e, c.Dead())
	}
}

func TestP4_2NobodyMade(t *testing.T) {
	var none *dev.Dev
	if none.Copy() != nil {
		t.Fatal("a copy of nil")
	}
	zero := &dev.Dev{}
	if c := zero.Copy(); c == nil || c == zero {
		t.Fatal("a copy of the zero one:", c)
	}
	for _, d := range []*dev.Dev{none, zero, zero.Copy()} {
		for _, n := range []int{-1, 0, 1} {
			if d.Size() != 0 || d.Cached() != 0 || d.Dead() {
				t.Fatal(d.Size(), d.Cached(), d.Dead())
			}
			for _, at := range append(outside(1), 0) {
				d.Fault(at, true)
				d.Fault(at, false)
				fails(t, d, at, api.ErrRange)
				for _, b := range [][]byte{nil, full('x')[:31], full('x')} {
					if e := d.Write(at, b); e != api.ErrRange {
						t.Fatalf("Write(%d, %d bytes): %d", at, len(b), e)
					}
				}
			}
			flush(t, d)
			d.Arm(n) // there is nothing to die
			flush(t, d)
			d.Crash(api.Fate{Keep: []bool{true}, Bytes: 5})
			flush(t, d)
			d.Arm(n)
		}
	}
}

// fates calls f with all fates of n cached writes: each Keep, each place to tear, some of the Bytes.
func fates(n int, f func(api.Fate)) {
	for bits := range 1 << n {
		keep := make([]bool, n)
		for i := range keep {
			keep[i] = bits>>i&1 == 1
		}
		for torn := -1; torn <= n; torn++ {
			for _, size := range []int{-1, 0, 1, 16, 31, 32, 33} {
				f(api.Fate{Keep: keep, Torn: torn, Bytes: size})
			}
		}
	}
}

// orders calls f with all lists of n places out of so many sectors.
func orders(n, sectors int, f func([]int)) {
	var grow func([]int)
	grow = func(l []int) {
		if len(l) == n {
			f(l)
			return
		}
		for at := range sectors {
			grow(append(slices.Clone(l), at))
		}
	}
	grow(nil)
}

// P4.3: whatever is written, flushed, and struck by a crash: what was flushed is there, unless written since.
func TestP4_3Barrier(t *testing.T) {
	for ahead := range 3 {
		orders(ahead+2, 3, func(places []int) {
			d := dev.New(3)
			want := [3]byte{}
			for i, at := range places[:ahead] {
				write(t, d, at, byte('a'+i))
				want[at] = byte('a' + i)
			}
			flush(t, d)
			for i, at := range places[ahead:] {
				write(t, d, at, byte('p'+i))
			}
			fates(2, func(f api.Fate) {
				c := d.Copy()
				c.Crash(f)
				for at := range 3 {
					if !slices.Contains(places[ahead:], at) {
						wants(t, c, at, string(full(want[at])))
					}
				}
			})
		})
	}
}

// P4.3: a Flush that didn't go well promises nothing, the one before it still does.
func TestP4_3BarrierOfADeadOne(t *testing.T) {
	d := dev.New(2)
	write(t, d, 0, 'a')
	flush(t, d)
	write(t, d, 1, 'b')
	d.Arm(0)
	if e := d.Flush(); e != api.ErrDev {
		t.Fatal(e)
	}
	fates(1, func(f api.Fate) {
		c := d.Copy()
		c.Crash(f)
		wants(t, c, 0, string(full('a')))
	})
}

// P4.4: all sectors but one are as they were at the last Flush, or as one of the writes since had them.
func TestP4_4OneTorn(t *testing.T) {
	orders(4, 2, func(places []int) {
		d := dev.New(2)
		could := [][]string{{string(full('x'))}, {string(full('y'))}}
		write(t, d, 0, 'x')
		write(t, d, 1, 'y')
		flush(t, d)
		for i, at := range places {
			write(t, d, at, byte('a'+i))
			could[at] = append(could[at], string(full(byte('a'+i))))
		}
		fates(4, func(f api.Fate) {
			c := d.Copy()
			c.Crash(f)
			other := 0
			for at := range 2 {
				got, e := c.Read(at)
				if e != api.OK {
					t.Fatal(e)
				}
				if !slices.Contains(could[at], string(got)) {
					other++
					if f.Torn < 0 || f.Torn >= 4 || places[f.Torn] != at {
						t.Fatalf("%v of %v: sector %d is %q", f, places, at, got)
					}
				}
			}
			if other > 1 {
				t.Fatalf("%v of %v: two sectors are torn", f, places)
			}
		})
	})
}

// meant is the device as it is meant, built otherwise: all sectors in one text, faults in another, a fuse that is counted down.
type meant struct {
	disk   string // all sectors that are kept, in a row
	cache  []pending
	faults string // one letter a sector, 'f' for a fault
	fuse   int    // below 0: not armed
	dead   bool
}

type pending struct {
	at   int
	data string
}

func laid(disk string, at int, b string) string {
	return disk[:32*at] + b + disk[32*at+len(b):]
}

func (m *meant) size() int { return len(m.disk) / 32 }

func (m *meant) blows() bool {
	m.dead = m.dead || m.fuse == 0
	m.fuse--
	return m.dead
}

func (m *meant) write(at int, b string) api.Errno {
	switch {
	case m.dead:
		return api.ErrDev
	case at < 0 || at >= m.size() || len(b) != 32:
		return api.ErrRange
	case m.blows():
		return api.ErrDev
	}
	m.cache = append(m.cache, pending{at, b})
	return api.OK
}

func (m *meant) read(at int) (string, api.Errno) {
	switch {
	case m.dead:
		return "", api.ErrDev
	case at < 0 || at >= m.size():
		return "", api.ErrRange
	case m.faults[at] == 'f':
		return "", api.ErrRead
	}
	seen := m.disk
	for _, w := range m.cache {
		seen = laid(seen, w.at, w.data)
	}
	return seen[32*at : 32*at+32], api.OK
}

func (m *meant) flush() api.Errno {
	if m.dead || m.blows() {
		return api.ErrDev
	}
	for _, w := range m.cache {
		m.disk = laid(m.disk, w.at, w.data)
	}
	m.cache = nil
	return api.OK
}

func (m *meant) crash(f api.Fate) {
	for i, w := range m.cache {
		switch {
		case i == f.Torn && f.Bytes > 31:
			m.disk = laid(m.disk, w.at, w.data)
		case i == f.Torn && f.Bytes > 0:
			m.disk = laid(m.disk, w.at, w.data[:f.Bytes])
		case i == f.Torn:
		case i < len(f.Keep) && f.Keep[i]:
			m.disk = laid(m.disk, w.at, w.data)
		}
	}
	m.cache, m.dead, m.fuse = nil, false, -1
}

func (m *meant) fault(at int, on bool) {
	if at >= 0 && at < m.size() {
		letter := "-"
		if on {
			letter = "f"
		}
		m.faults = m.faults[:at] + letter + m.faults[at+1:]
	}
}

func (m *meant) copy() *meant {
	c := *m
	c.cache = slices.Clone(m.cache)
	return &c
}

// pair is a device with what it is meant to be.
type pair struct {
	is    *dev.Dev
	meant *meant
}

func made(n int) pair {
	return pair{dev.New(n), &meant{disk: strings.Repeat("\x00", 32*n), faults: strings.Repeat("-", n), fuse: -1}}
}

// alike asks both for everything.
func (p pair) alike(t *testing.T) {
	t.Helper()
	m := p.meant
	if p.is.Size() != m.size() || p.is.Cached() != len(m.cache) || p.is.Dead() != m.dead {
		t.Fatalf("%d sectors, %d cached, Dead %v; meant are %d, %d, %v",
			p.is.Size(), p.is.Cached(), p.is.Dead(), m.size(), len(m.cache), m.dead)
	}
	for at := -1; at <= m.size(); at++ {
		got, e := p.is.Read(at)
		want, wantE := m.read(at)
		if e != wantE || string(got) != want {
			t.Fatalf("Read(%d): %q, %d; meant are %q, %d", at, got, e, want, wantE)
		}
	}
}

// step does to both what three bytes say, and tells a copy, if they say so.
func (p pair) step(t *testing.T, kind, x, y byte) (pair, bool) {
	t.Helper()
	at := int(x)%6 - 1
	switch kind % 10 {
	default:
		b := full(y)
		if y == 255 {
			b = b[:31]
		}
		if got, want := p.is.Write(at, b), p.meant.write(at, string(b)); got != want {
			t.Fatalf("Write(%d, %d bytes): %d; meant is %d", at, len(b), got, want)
		}
	case 5:
		if got, want := p.is.Flush(), p.meant.flush(); got != want {
			t.Fatalf("Flush: %d; meant is %d", got, want)
		}
	case 6:
		p.is.Arm(at)
		p.meant.fuse = max(at, -1)
	case 7:
		f := api.Fate{Torn: at, Bytes: int(y)%36 - 2}
		for i := range int(x) / 6 % 8 {
			f.Keep = append(f.Keep, y>>i&1 == 1)
		}
		p.is.Crash(f)
		p.meant.crash(f)
	case 8:
		p.is.Fault(at, y%2 == 1)
		p.meant.fault(at, y%2 == 1)
	case 9:
		return pair{p.is.Copy(), p.meant.copy()}, true
	}
	return pair{}, false
}

// run does all that the bytes say, to a device and its copies by turns.
func run(t *testing.T, moves []byte) {
	t.Helper()
	all := []pair{made(4)}
	for i := 0; i+4 <= len(moves); i += 4 {
		p := all[int(moves[i+3])%len(all)]
		if c, is := p.step(t, moves[i], moves[i+1], moves[i+2]); is && len(all) < 4 {
			all = append(all, c)
		}
		for _, q := range all {
			q.alike(t)
		}
	}
}

// Long rows of moves, out of a rule that is the same each time.
func TestAsMeant(t *testing.T) {
	h := uint64(1)
	for range 400 {
		moves := make([]byte, 400)
		for i := range moves {
			h = h*6364136223846793005 + 1442695040888963407
			moves[i] = byte(h >> 56)
		}
		run(t, moves)
	}
}

func FuzzMoves(f *testing.F) {
	f.Add([]byte{0, 1, 'a', 0, 7, 1, 9, 0})
	f.Add([]byte{0, 1, 'a', 0, 9, 0, 0, 0, 5, 0, 0, 1, 7, 8, 255, 0})
	f.Fuzz(func(t *testing.T, moves []byte) {
		run(t, moves[:min(len(moves), 2000)])
	})
}
