package archive_test

import (
	"encoding/hex"
	"strings"
	"testing"

	"stow/archive"
)

func TestExample1(t *testing.T) {
	want := strings.ReplaceAll("ba7816bf 8f01cfea 414140de 5dae2223 b00361a3 96177a9c b410ff61 f20015ad", " ", "")
	if got := hex.EncodeToString([]byte(archive.Sum("abc"))); got != want {
		t.Errorf("P3: Sum of abc: %s, want %s", got, want)
	}
	if got := archive.CRC("123456789"); got != 0xcbf43926 {
		t.Errorf("P3: CRC of 123456789: %08x", got)
	}
}

func TestSumOfAnyTextHas32Bytes(t *testing.T) {
	for _, text := range []string{"", "\x00", "\xff\xfe no UTF-8 \x80", strings.Repeat("a", 55), strings.Repeat("a", 56), strings.Repeat("a", 64), strings.Repeat("a", 100000)} {
		if got := archive.Sum(text); len(got) != 32 || got != archive.Sum(text) {
			t.Errorf("P3: Sum of %d bytes: %x", len(text), got)
		}
	}
	if archive.Sum("") == archive.Sum("\x00") || archive.CRC("") == archive.CRC("\x00") {
		t.Error("P3: a byte 0 counts")
	}
}
