package parcels_test

import (
	"encoding/binary"
	"strings"
	"testing"

	"parcels/parcels"
)

// wantOrder asks both ways round.
func wantOrder(t *testing.T, a, b string, want int) {
	t.Helper()
	if got := parcels.Compare(a, b); got != want {
		t.Errorf("P3: Compare(%.60q, %.60q) = %d, want %d", a, b, got, want)
	}
	if got := parcels.Compare(b, a); got != -want {
		t.Errorf("P3: Compare(%.60q, %.60q) = %d, want %d", b, a, got, -want)
	}
}

func TestCompareDocumentTable(t *testing.T) {
	for _, c := range []struct {
		a, b string
		want int
	}{
		{"1", "1", 0},
		{"1.9", "1.10", -1},
		{"1.0", "1", 1},
		{"1.0", "1.00", 0},
		{"2~rc1", "2", -1},
		{"2~", "2~~", 1},
		{"2~~", "2~rc1", -1},
		{"1a", "1", 1},
		{"1a", "1+", -1},
		{"1a", "1A", 1},
		{"1.", "1-", 1},
		{"10", "9", 1},
		{"007", "7", 0},
		{"1.0-1", "1.0", 1},
		{"1.0~", "1.0-1", -1},
		{"1.2.3", "1.2", 1},
		{"1b1", "1b10", -1},
		{"99999999999999999999", "100000000000000000000", -1},
		{"", "0", 0},
		{"", "~", 1},
		{"a", "", 1},
	} {
		wantOrder(t, c.a, c.b, c.want)
	}
}

// Each is earlier than all that stand behind it.
func TestCompareLadder(t *testing.T) {
	ladder := []string{
		"~~", "~~0a", "~", "~1", "~a", "0~~", "0~", "",
		"0A", "0Z", "0a", "0z", "0\x00", "0 ", "0+", "0-", "0.", "0/", "0:", "0@", "0[", "0_", "0`", "0{", "0\x7f", "0\x80", "0é", "0\xff",
		"1~~", "1~~a", "1~", "1~1", "1~A", "1~a", "1~+", "1", "1a~", "1a", "1a1", "1a1a", "1aa", "1a+", "1+~", "1+", "1+a", "1++",
		"2", "9", "10", "19", "20", "100",
		"A", "a~", "a0~", "a", "a0a", "a1", "aa", "a+", "b", "+", "+1", "++", ".",
	}
	for i, a := range ladder {
		for j, b := range ladder {
			if i < j {
				wantOrder(t, a, b, -1)
			}
		}
		wantOrder(t, a, a, 0)
	}
}

func TestCompareEmptyParts(t *testing.T) {
	for _, c := range []struct {
		a, b string
		want int
	}{
		{"", "", 0},
		{"", "000", 0},
		{"a", "a0", 0},
		{"1.", "1.0", 0},
		{"~", "~0", 0},
		{"a0b", "ab", -1},
		{"a0b", "a00b", 0},
		{"a0~", "a", -1},
		{"0a", "a", -1},
		{"1", "a", -1},
		{"0~a", "~a", 1},
	} {
		wantOrder(t, c.a, c.b, c.want)
	}
}

func TestCompareLongNumbers(t *testing.T) {
	nines, noughts := strings.Repeat("9", 1000), strings.Repeat("0", 1000)
	wantOrder(t, nines, "1"+noughts, -1)
	wantOrder(t, noughts+"7", "7", 0)
	wantOrder(t, noughts+"8", "7", 1)
	wantOrder(t, noughts+nines, nines, 0)
	wantOrder(t, "1"+noughts+"1", "1"+noughts+"2", -1)
	wantOrder(t, "2"+noughts, "1"+nines, 1)
	wantOrder(t, "18446744073709551616", "0", 1)
	wantOrder(t, "9223372036854775808", "9223372036854775807", 1)
	wantOrder(t, "a"+nines+"~", "a"+nines, -1)
}

func TestCompareLongTexts(t *testing.T) {
	long := strings.Repeat("1.a~", 1<<18)
	wantOrder(t, long, long, 0)
	wantOrder(t, long, long+"~", 1)
	wantOrder(t, long+"1", long+"2", -1)
}

// orderKey turns a version into bytes whose everyday order is the versions' one: so many turns, each a part without digits, its end, and a number behind its length.
func orderKey(version string, turns int) string {
	var key []byte
	for range turns {
		for version != "" && !strings.Contains("0123456789", version[:1]) {
			c := version[0]
			switch {
			case c == '~':
				key = append(key, 0)
			case 'a' <= c|0x20 && c|0x20 <= 'z':
				key = append(key, 2, c)
			default:
				key = append(key, 3, c)
			}
			version = version[1:]
		}
		key = append(key, 1)
		behind := strings.TrimLeft(version, "0123456789")
		number := strings.TrimLeft(version[:len(version)-len(behind)], "0")
		key = binary.BigEndian.AppendUint32(key, uint32(len(number)))
		key = append(key, number...)
		version = behind
	}
	return string(key)
}

func TestCompareAllShortTexts(t *testing.T) {
	const bytes = "~019aZ+\x00\xff"
	all := []string{""}
	for from, n := 0, 0; n < 3; n++ {
		to := len(all)
		for _, head := range all[from:to] {
			for i := range len(bytes) {
				all = append(all, head+bytes[i:i+1])
			}
		}
		from = to
	}
	keys := make([]string, len(all))
	for i, v := range all {
		keys[i] = orderKey(v, 4)
	}
	for i, a := range all {
		for j, b := range all {
			if got, want := parcels.Compare(a, b), strings.Compare(keys[i], keys[j]); got != want {
				t.Fatalf("P3: Compare(%q, %q) = %d, want %d", a, b, got, want)
			}
		}
	}
}
