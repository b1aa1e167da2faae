package tests

import (
	"fmt"
	"strconv"
	"testing"

	"loop.example/differenceengine/impl"
)

func TestWheelLimits(t *testing.T) {
	const limit = impl.MaxWheels
	expectNumber(t, "MaxWheels", limit, 12)
}

func TestColumnValid(t *testing.T) {
	eachColumn(func(c string, value, width int) {
		if !impl.ColumnValid(c) {
			t.Errorf("ColumnValid(%q) = false", c)
		}
	})
	for _, c := range notColumns {
		if impl.ColumnValid(c) {
			t.Errorf("ColumnValid(%q) = true", c)
		}
	}
	for b := range 256 {
		isDigit := b >= '0' && b <= '9'
		for _, c := range []string{string([]byte{byte(b)}), string([]byte{'0', byte(b), '9'})} {
			if impl.ColumnValid(c) != isDigit {
				t.Errorf("ColumnValid(%q) = %v", c, !isDigit)
			}
		}
	}
}

func TestColumnNumbers(t *testing.T) {
	eachColumn(func(c string, value, width int) {
		expectNumber(t, fmt.Sprintf("ValueOf(%q)", c), impl.ValueOf(c), value)
		want := standsFor(value, width)
		if n, ok := impl.SignedOf(c); n != want || !ok {
			t.Errorf("SignedOf(%q) = %d, %v; want %d", c, n, ok, want)
		}
		got, ok := impl.ColumnOf(want, width)
		expectText(t, fmt.Sprintf("ColumnOf(%d, %d)", want, width), got, ok, c, true)
		expectNumber(t, fmt.Sprintf("CastNines(%q)", c), impl.CastNines(c), value%9)
		expectNumber(t, fmt.Sprintf("CastElevens(%q)", c), impl.CastElevens(c), value%11)
	})
}

// Columns of a width stand for all numbers between their bounds, each for
// another one, and for no other number.
func TestColumnBounds(t *testing.T) {
	for width := 1; width <= 4; width++ {
		seen := map[string]bool{}
		for n := -tens(width) / 2; n < tens(width)/2; n++ {
			c, ok := impl.ColumnOf(n, width)
			if !ok || len(c) != width || seen[c] {
				t.Fatalf("ColumnOf(%d, %d) = %q, %v, seen before: %v", n, width, c, ok, seen[c])
			}
			seen[c] = true
			if back, ok := impl.SignedOf(c); back != n || !ok {
				t.Errorf("SignedOf(%q) = %d, %v; want %d", c, back, ok, n)
			}
		}
	}
	for width := 1; width <= 12; width++ {
		half := tens(width) / 2
		for _, c := range []struct {
			n    int
			want string
		}{{-half, showing(half, width)}, {1 - half, showing(half+1, width)}, {half - 1, showing(half-1, width)}, {-1, showing(-1, width)}, {0, showing(0, width)}} {
			got, ok := impl.ColumnOf(c.n, width)
			expectText(t, fmt.Sprintf("ColumnOf(%d, %d)", c.n, width), got, ok, c.want, true)
		}
		for _, n := range []int{half, -half - 1, half + 1, 2*half - 1, 2 * half, -2 * half, minInt, maxInt} {
			got, ok := impl.ColumnOf(n, width)
			expectText(t, fmt.Sprintf("ColumnOf(%d, %d)", n, width), got, ok, "", false)
		}
	}
	for _, width := range notWidths {
		for _, n := range []int{0, 1, -1, minInt, maxInt} {
			got, ok := impl.ColumnOf(n, width)
			expectText(t, fmt.Sprintf("ColumnOf(%d, %d)", n, width), got, ok, "", false)
		}
	}
}

func TestWidthFor(t *testing.T) {
	for width := 1; width <= 12; width++ {
		half := tens(width) / 2
		for n, want := range map[int]int{half - 1: width, -half: width, half: (width + 1) % 13, -half - 1: (width + 1) % 13} {
			expectNumber(t, fmt.Sprintf("WidthFor(%d)", n), impl.WidthFor(n), want)
		}
	}
	for n := -600; n <= 600; n++ {
		want := 1
		for n < -tens(want)/2 || n >= tens(want)/2 {
			want++
		}
		expectNumber(t, fmt.Sprintf("WidthFor(%d)", n), impl.WidthFor(n), want)
	}
	for _, n := range []int{500000000000, -500000000001, 999999999999, minInt, maxInt, minInt + 1} {
		expectNumber(t, fmt.Sprintf("WidthFor(%d)", n), impl.WidthFor(n), 0)
	}
}

func TestWidenColumn(t *testing.T) {
	eachColumn(func(c string, value, width int) {
		n := standsFor(value, width)
		for other := 1; other <= 12; other++ {
			want, fits := "", n >= -tens(other)/2 && n < tens(other)/2
			if fits {
				want = showing(n, other)
			}
			got, ok := impl.WidenColumn(c, other)
			expectText(t, fmt.Sprintf("WidenColumn(%q, %d)", c, other), got, ok, want, fits)
		}
	})
	for _, width := range notWidths {
		got, ok := impl.WidenColumn("0001", width)
		expectText(t, fmt.Sprintf("WidenColumn(0001, %d)", width), got, ok, "", false)
	}
}

func TestSignedTexts(t *testing.T) {
	eachColumn(func(c string, value, width int) {
		text := strconv.Itoa(standsFor(value, width))
		if got := impl.FormatSigned(c); got != text {
			t.Errorf("FormatSigned(%q) = %q; want %q", c, got, text)
		}
		got, ok := impl.ParseSigned(text, width)
		expectText(t, fmt.Sprintf("ParseSigned(%q, %d)", text, width), got, ok, c, true)
	})
	for _, c := range []struct {
		text  string
		width int
	}{{"5", 1}, {"-6", 1}, {"10", 1}, {"50", 2}, {"-51", 2}, {"500", 3}, {"-501", 3}, {"500000000000", 12}, {"-500000000001", 12},
		{"9223372036854775807", 12}, {"9223372036854775808", 12}, {"-9223372036854775809", 12}, {"100000000000000000000000000", 12}} {
		got, ok := impl.ParseSigned(c.text, c.width)
		expectText(t, fmt.Sprintf("ParseSigned(%q, %d)", c.text, c.width), got, ok, "", false)
	}
	noTexts := []string{"", "-", "+", "+4", "-0", "+0", "00", "04", "-04", "004", "--4", "4-", " 4", "4 ", "4\n", "-\n4", "4x", "x", "1e2", "0x4", "4.0", "1_0", "\x004", "\xff", "\u0664", "\u22124"}
	for _, text := range noTexts {
		for _, width := range []int{1, 3, 12} {
			got, ok := impl.ParseSigned(text, width)
			expectText(t, fmt.Sprintf("ParseSigned(%q, %d)", text, width), got, ok, "", false)
		}
	}
	for _, width := range notWidths {
		got, ok := impl.ParseSigned("0", width)
		expectText(t, fmt.Sprintf("ParseSigned(0, %d)", width), got, ok, "", false)
	}
}

func TestNoColumns(t *testing.T) {
	for _, c := range notColumns {
		expectNumber(t, fmt.Sprintf("ValueOf(%q)", c), impl.ValueOf(c), -1)
		expectNumber(t, fmt.Sprintf("CastNines(%q)", c), impl.CastNines(c), -1)
		expectNumber(t, fmt.Sprintf("CastElevens(%q)", c), impl.CastElevens(c), -1)
		if n, ok := impl.SignedOf(c); n != 0 || ok {
			t.Errorf("SignedOf(%q) = %d, %v", c, n, ok)
		}
		if text := impl.FormatSigned(c); text != "" {
			t.Errorf("FormatSigned(%q) = %q", c, text)
		}
		for _, width := range []int{0, 1, 4, 12, 13} {
			got, ok := impl.WidenColumn(c, width)
			expectText(t, fmt.Sprintf("WidenColumn(%q, %d)", c, width), got, ok, "", false)
		}
		got, ok := impl.NegateColumn(c)
		expectText(t, fmt.Sprintf("NegateColumn(%q)", c), got, ok, "", false)
	}
}
