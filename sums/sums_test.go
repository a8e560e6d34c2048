package sums

import (
	"crypto/sha256"
	"encoding/hex"
	"strings"
	"sync"
	"testing"
)

// pattern makes texts of all byte values, in which no two neighbouring blocks are alike.
func pattern(n int) string {
	b := make([]byte, n)
	for i := range b {
		b[i] = byte(i*7 + i/64*13 + i>>8)
	}
	return string(b)
}

// bitwise is the CRC as P3 words it, bit by bit.
func bitwise(text string) uint32 {
	crc := uint32(1<<32 - 1)
	for i := range len(text) {
		for bit := range 8 {
			out := crc & 1
			crc >>= 1
			if out != uint32(text[i]>>bit)&1 {
				crc ^= 0xedb88320
			}
		}
	}
	return ^crc
}

func TestSumOfPublishedTexts(t *testing.T) {
	for text, want := range map[string]string{
		"":    "e3b0c44298fc1c149afbf4c8996fb92427ae41e4649b934ca495991b7852b855",
		"abc": "ba7816bf8f01cfea414140de5dae2223b00361a396177a9cb410ff61f20015ad",
		"abcdbcdecdefdefgefghfghighijhijkijkljklmklmnlmnomnopnopq": "248d6a61d20638b8e5c026930c3e6039a33ce45964ff2167f6ecedd419db06c1",
		strings.Repeat("a", 1000000):                               "cdc76e5c9914fb9281a1c7e284d73e67f1809a48a497200e046d39ccc7112cd0",
	} {
		got := Of(text)
		if hex.EncodeToString(got[:]) != want {
			t.Errorf("P3: Sum of %d bytes: %x, want %s", len(text), got, want)
		}
	}
}

func TestSumAtEachLength(t *testing.T) {
	for n := range 400 {
		text := pattern(n)
		if got, want := Of(text), sha256.Sum256([]byte(text)); got != Sum(want) {
			t.Errorf("P3: Sum of %d bytes: %x, want %x", n, got, want)
		}
	}
}

func TestCRCOfKnownTexts(t *testing.T) {
	for text, want := range map[string]uint32{"": 0, "a": 0xe8b7be43, "123456789": 0xcbf43926, "\x00": 0xd202ef8d, "\xff\xff\xff\xff": 0xffffffff} {
		if got := CRC(text); got != want {
			t.Errorf("P3: CRC of %q: %08x, want %08x", text, got, want)
		}
	}
}

func TestCRCAtEachByteAndLength(t *testing.T) {
	for b := range 256 {
		text := string([]byte{byte(b)})
		if got, want := CRC(text), bitwise(text); got != want {
			t.Errorf("P3: CRC of the byte %d: %08x, want %08x", b, got, want)
		}
	}
	for n := range 400 {
		text := pattern(n)
		if got, want := CRC(text), bitwise(text); got != want {
			t.Errorf("P3: CRC of %d bytes: %08x, want %08x", n, got, want)
		}
	}
}

func TestTableIsMadeOnceWhenFirstAsked(t *testing.T) {
	var halves table
	if halves.rows != [16]uint32{} {
		t.Error("Ways, P3: the CRC's table is there ahead of the first that asks")
	}
	if got := halves.row(1); got != shifted(1) {
		t.Errorf("P3: row 1 of the CRC's table: %08x, want %08x", got, shifted(1))
	}
	halves.rows[2] = 7 // a table that is made again has not this row
	if halves.row(1) != shifted(1) || halves.row(2) != 7 {
		t.Error("Ways, P3: the CRC's table is made more than once")
	}
}

func TestTableAskedByMany(t *testing.T) {
	var halves table
	var group sync.WaitGroup
	rows := make([]uint32, 16)
	for i := range rows {
		group.Go(func() { rows[i] = halves.row(uint32(i)) })
	}
	group.Wait()
	for i, row := range rows {
		if row != shifted(uint32(i)) {
			t.Errorf("P3: row %d of the CRC's table: %08x, want %08x", i, row, shifted(uint32(i)))
		}
	}
}

func TestCRCAskedByMany(t *testing.T) {
	var group sync.WaitGroup
	for n := range 64 {
		group.Go(func() {
			text := pattern(n)
			if got, want := CRC(text), bitwise(text); got != want {
				t.Errorf("P3: CRC of %d bytes, by one of many: %08x, want %08x", n, got, want)
			}
		})
	}
	group.Wait()
}
