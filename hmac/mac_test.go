package hmac_test

import (
	"bytes"
	"math/rand"
	"slices"
	"testing"

	"groundling/api"
	"groundling/hmac"
)

// write writes b to m.
func write(t *testing.T, m *hmac.Mac, b []byte) {
	t.Helper()
	if e := m.Write(b); e != api.OK {
		t.Fatalf("Write of %d bytes: %d", len(b), e)
	}
}

// checkMac checks that m has the key and the bytes b, twice, because looking leaves it as it is.
func checkMac(t *testing.T, m *hmac.Mac, key, b []byte) {
	t.Helper()
	want := tagOf(key, b)
	for range 2 {
		if tag, e := m.Tag(); tag != want || e != api.OK {
			t.Fatalf("Tag after %d bytes, under a key of %d: %x, %d", len(b), len(key), tag, e)
		}
		if e := m.Verify(want[:]); e != api.OK {
			t.Fatalf("Verify after %d bytes, under a key of %d: %d", len(b), len(key), e)
		}
		if e := m.Verify(want[1:]); e != api.ErrAuth {
			t.Fatalf("Verify of a tag that is cut off, after %d bytes: %d", len(b), e)
		}
	}
}

// P4.3
func TestMac(t *testing.T) {
	key := []byte("Jefe")
	m := hmac.New(key)
	checkMac(t, m, key, nil)
	write(t, m, nil)
	write(t, m, []byte{})
	checkMac(t, m, key, nil)
	write(t, m, []byte("what do ya want "))
	checkMac(t, m, key, []byte("what do ya want "))
	write(t, m, []byte("for nothing?"))
	checkMac(t, m, key, []byte("what do ya want for nothing?"))
	other := hmac.New(key)
	if other == m {
		t.Fatal("New returns the same mac again")
	}
	checkMac(t, other, key, nil)
	write(t, other, []byte("x"))
	checkMac(t, other, key, []byte("x"))
	checkMac(t, m, key, []byte("what do ya want for nothing?"))
}

// P4.3: keys of all lengths, and none.
func TestMacKeys(t *testing.T) {
	all := someBytes(200)
	for n := range all {
		m := hmac.New(all[:n])
		checkMac(t, m, all[:n], nil)
		write(t, m, all[n:])
		checkMac(t, m, all[:n], all[n:])
	}
	checkMac(t, hmac.New(nil), nil, nil)
	checkMac(t, hmac.New([]byte{}), nil, nil)
}

// P4.5: a mac that is looked at after each byte.
func TestTagStays(t *testing.T) {
	all := someBytes(300)
	m := hmac.New(all[:32])
	for n := range all {
		checkMac(t, m, all[:32], all[:n])
		write(t, m, all[n:n+1])
	}
	checkMac(t, m, all[:32], all)
}

// P4.5: parts of all sorts of lengths have the tag of all bytes at once.
func TestParts(t *testing.T) {
	all := someBytes(400)
	key := []byte("key")
	want := hmac.Tag(key, all)
	for n := 1; n <= len(all); n++ {
		m := hmac.New(key)
		for part := range slices.Chunk(all, n) {
			write(t, m, part)
		}
		if tag, e := m.Tag(); tag != want || e != api.OK {
			t.Errorf("Tag of parts of %d bytes: %x, %d", n, tag, e)
		}
	}
	for n := range all {
		m := hmac.New(key)
		write(t, m, all[:n])
		write(t, m, all[n:])
		checkMac(t, m, key, all)
	}
	random := rand.New(rand.NewSource(5))
	for range 300 {
		m := hmac.New(key)
		for rest := all; len(rest) > 0; {
			n := random.Intn(min(len(rest), 130) + 1)
			write(t, m, rest[:n])
			rest = rest[n:]
		}
		checkMac(t, m, key, all)
	}
}

// P4.3: after any number of bytes; the key stays.
func TestReset(t *testing.T) {
	all := someBytes(200)
	for _, size := range []int{0, 1, 64, 65, 131} {
		key := all[:size]
		m := hmac.New(key)
		for n := range all {
			write(t, m, all[:n])
			for range n%2 + 1 {
				if e := m.Reset(); e != api.OK {
					t.Fatalf("Reset: %d", e)
				}
			}
			checkMac(t, m, key, nil)
			write(t, m, all[n:])
			checkMac(t, m, key, all[n:])
			m.Reset()
		}
	}
}

// P4.3 and P4.4
func TestMacVerify(t *testing.T) {
	all := someBytes(200)
	for _, n := range []int{0, 1, 20, 64, 65, 131} {
		m := hmac.New(all[:n])
		write(t, m, all[n:])
		right := tagOf(all[:n], all[n:])
		checkWrong(t, right[:], m.Verify)
		checkMac(t, m, all[:n], all[n:])
		write(t, m, []byte{0})
		if e := m.Verify(right[:]); e != api.ErrAuth {
			t.Errorf("Verify of the tag of fewer bytes: %d", e)
		}
		m.Reset()
		if e := m.Verify(right[:]); e != api.ErrAuth {
			t.Errorf("Verify after Reset: %d", e)
		}
		write(t, m, all[n:])
		checkWrong(t, right[:], m.Verify)
	}
	m := hmac.New([]byte("other"))
	write(t, m, []byte("abc"))
	right := tagOf([]byte("key"), []byte("abc"))
	if e := m.Verify(right[:]); e != api.ErrAuth {
		t.Errorf("Verify of a tag under another key: %d", e)
	}
}

// P4.3 and P4.6: what is done later to the key, to what was written, or to a tag, is not done to the mac.
func TestMacMemory(t *testing.T) {
	for _, n := range sizes() {
		for _, size := range sizes() {
			key, b := someBytes(n), someBytes(size)
			m := hmac.New(key)
			write(t, m, b)
			tag, _ := m.Tag()
			m.Verify(tag[:])
			if !bytes.Equal(key, someBytes(n)) || !bytes.Equal(b, someBytes(size)) || tag != tagOf(key, b) {
				t.Fatalf("a key of %d bytes, others, %d of them, or their tag, were changed", n, size)
			}
			clear(key)
			clear(b)
			clear(tag[:])
			checkMac(t, m, someBytes(n), someBytes(size))
			m.Reset()
			checkMac(t, m, someBytes(n), nil)
		}
	}
}

// P4.3: macs that nobody returned.
func TestMacErrors(t *testing.T) {
	made := hmac.New([]byte("Jefe"))
	write(t, made, []byte("abc"))
	struck := *made
	tag := tagOf([]byte("Jefe"), []byte("abc"))
	for i, m := range []*hmac.Mac{nil, {}, new(hmac.Mac), &struck} {
		for range 2 {
			if e := m.Write([]byte("abc")); e != api.ErrNil {
				t.Errorf("%d: Write: %d", i, e)
			}
			if e := m.Write(nil); e != api.ErrNil {
				t.Errorf("%d: Write of no bytes: %d", i, e)
			}
			if got, e := m.Tag(); got != [32]byte{} || e != api.ErrNil {
				t.Errorf("%d: Tag: %x, %d", i, got, e)
			}
			for _, b := range [][]byte{nil, tag[:], make([]byte, 32)} {
				if e := m.Verify(b); e != api.ErrNil {
					t.Errorf("%d: Verify of %x: %d", i, b, e)
				}
			}
			if e := m.Reset(); e != api.ErrNil {
				t.Errorf("%d: Reset: %d", i, e)
			}
		}
	}
	checkMac(t, made, []byte("Jefe"), []byte("abc"))
}
