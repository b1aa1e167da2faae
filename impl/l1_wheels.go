package impl

import (
	"strconv"
	"strings"
)

// MaxWheels limits the wheels of a column.
const MaxWheels = 12

// A wheelRow has the wheels of a column, or the marks of wheels. The lowest
// wheel comes first, so that the wheel above another one has the next index
// whatever the width is. Digits past the width are 0.
type wheelRow struct {
	width  int
	digits [MaxWheels]int
}

func rowOf(c string) wheelRow {
	row := wheelRow{width: len(c)}
	for i := range len(c) {
		row.digits[len(c)-1-i] = int(c[i] - '0')
	}
	return row
}

func (r *wheelRow) text() string {
	shown := make([]byte, r.width)
	for i := range r.width {
		shown[r.width-1-i] = byte('0' + r.digits[i])
	}
	return string(shown)
}

// turn turns each wheel by the digit of by in the same place, without carries,
// and returns the marks of the wheels that pass from 9 to 0.
func (r *wheelRow) turn(by wheelRow) wheelRow {
	passed := wheelRow{width: r.width}
	for i := range r.width {
		sum := r.digits[i] + by.digits[i]
		r.digits[i] = sum % 10
		passed.digits[i] = sum / 10
	}
	return passed
}

// carryOnce turns the wheel above each marked wheel by one, which is a turn by
// the marks moved up by one place: the mark of the highest wheel drops out.
func (r *wheelRow) carryOnce(warned wheelRow) wheelRow {
	above := wheelRow{width: r.width}
	copy(above.digits[1:r.width], warned.digits[:])
	return r.turn(above)
}

// carryAll carries as long as a wheel is marked, and returns how often. It
// ends, as each time the marks move up by at least one place.
func (r *wheelRow) carryAll(marks wheelRow) int {
	times := 0
	for marks.isMarked() {
		marks = r.carryOnce(marks)
		times++
	}
	return times
}

// carryAhead makes all carries in one pass from the lowest wheel up. A marked
// wheel that passes once more moves the wheel above it twice.
func (r *wheelRow) carryAhead(warned wheelRow) {
	moves := 0
	for i := range r.width {
		sum := r.digits[i] + moves
		r.digits[i] = sum % 10
		moves = warned.digits[i] + sum/10
	}
}

func (r *wheelRow) isMarked() bool { return r.digits != [MaxWheels]int{} }

// turnedRow returns the wheels of a after a turn by b, and the marks of those
// that pass from 9 to 0; false if a and b are not columns of the same width.
func turnedRow(a string, b string) (wheelRow, wheelRow, bool) {
	if !ColumnValid(a) || !ColumnValid(b) || len(a) != len(b) {
		return wheelRow{}, wheelRow{}, false
	}
	row := rowOf(a)
	passed := row.turn(rowOf(b))
	return row, passed, true
}

// warnedRow returns the wheels of a column and their marks; false if c is not
// a column or warned are not marks for it.
func warnedRow(c string, warned string) (wheelRow, wheelRow, bool) {
	if !ColumnValid(c) || len(warned) != len(c) || strings.Trim(warned, "01") != "" {
		return wheelRow{}, wheelRow{}, false
	}
	return rowOf(c), rowOf(warned), true
}

func widthValid(width int) bool { return width >= 1 && width <= MaxWheels }

func powerOfTen(exponent int) int {
	power := 1
	for range exponent {
		power *= 10
	}
	return power
}

// columnShowing returns the column that shows n modulo 10 to the power of
// width, for an n that is less than this power without regard to its sign.
func columnShowing(n int, width int) string {
	power := powerOfTen(width)
	rest := (n + power) % power
	row := wheelRow{width: width}
	for i := range width {
		row.digits[i] = rest % 10
		rest /= 10
	}
	return row.text()
}

// ColumnValid reports whether a string is a column.
func ColumnValid(c string) bool {
	return widthValid(len(c)) && strings.Trim(c, "0123456789") == ""
}

// ColumnOf returns the column that stands for a number.
func ColumnOf(n int, width int) (string, bool) {
	if !widthValid(width) {
		return "", false
	}
	half := powerOfTen(width) / 2
	if n < -half || n >= half {
		return "", false
	}
	return columnShowing(n, width), true
}

// ValueOf returns the number that the wheels of a column show.
func ValueOf(c string) int {
	if !ColumnValid(c) {
		return -1
	}
	value := 0
	for i := range len(c) {
		value = value*10 + int(c[i]-'0')
	}
	return value
}

// SignedOf returns the number that a column stands for.
func SignedOf(c string) (int, bool) {
	if !ColumnValid(c) {
		return 0, false
	}
	value, power := ValueOf(c), powerOfTen(len(c))
	if value >= power/2 {
		value -= power
	}
	return value, true
}

// WidthFor returns the least width of a column for a number.
func WidthFor(n int) int {
	for width := 1; width <= MaxWheels; width++ {
		if _, ok := ColumnOf(n, width); ok {
			return width
		}
	}
	return 0
}

// WidenColumn returns the column of another width that stands for the same number.
func WidenColumn(c string, width int) (string, bool) {
	n, ok := SignedOf(c)
	if !ok {
		return "", false
	}
	return ColumnOf(n, width)
}

// AddColumns adds two columns.
func AddColumns(a string, b string) (string, bool) {
	row, passed, ok := turnedRow(a, b)
	if !ok {
		return "", false
	}
	row.carryAhead(passed)
	return row.text(), true
}

// NegateColumn returns the column that stands for the opposite number.
func NegateColumn(c string) (string, bool) {
	if !ColumnValid(c) {
		return "", false
	}
	return columnShowing(-ValueOf(c), len(c)), true
}

// SubtractColumns subtracts a column from another one.
func SubtractColumns(a string, b string) (string, bool) {
	opposite, ok := NegateColumn(b)
	if !ok {
		return "", false
	}
	return AddColumns(a, opposite)
}

// TurnWheels turns each wheel by a digit, without carries.
func TurnWheels(a string, b string) (string, bool) {
	row, _, ok := turnedRow(a, b)
	if !ok {
		return "", false
	}
	return row.text(), true
}

// WarnedWheels tells which wheels pass from 9 to 0.
func WarnedWheels(a string, b string) (string, bool) {
	_, passed, ok := turnedRow(a, b)
	if !ok {
		return "", false
	}
	return passed.text(), true
}

// CarryOnce moves the wheels above warned ones.
func CarryOnce(c string, warned string) (string, string, bool) {
	row, marks, ok := warnedRow(c, warned)
	if !ok {
		return "", "", false
	}
	passed := row.carryOnce(marks)
	return row.text(), passed.text(), true
}

// CarryAll carries until no wheel is warned, and counts the times.
func CarryAll(c string, warned string) (string, int, bool) {
	row, marks, ok := warnedRow(c, warned)
	if !ok {
		return "", 0, false
	}
	times := row.carryAll(marks)
	return row.text(), times, true
}

// CarryAhead carries all at once.
func CarryAhead(c string, warned string) (string, bool) {
	row, marks, ok := warnedRow(c, warned)
	if !ok {
		return "", false
	}
	row.carryAhead(marks)
	return row.text(), true
}

// CarryTimes returns how often carries follow each other in a sum.
func CarryTimes(a string, b string) int {
	row, passed, ok := turnedRow(a, b)
	if !ok {
		return -1
	}
	return row.carryAll(passed)
}

// castOut returns the remainder of what a column shows; -1 for no column.
func castOut(c string, divisor int) int {
	if !ColumnValid(c) {
		return -1
	}
	return ValueOf(c) % divisor
}

// CastNines returns the remainder of what a column shows when divided by 9.
func CastNines(c string) int { return castOut(c, 9) }

// CastElevens returns the remainder of what a column shows when divided by 11.
func CastElevens(c string) int { return castOut(c, 11) }

// FormatSigned returns the decimal text of what a column stands for.
func FormatSigned(c string) string {
	n, ok := SignedOf(c)
	if !ok {
		return ""
	}
	return strconv.Itoa(n)
}

// ParseSigned returns the column that stands for a decimal text.
func ParseSigned(t string, width int) (string, bool) {
	n, err := strconv.Atoi(t)
	// Atoi also reads texts that no column has, as "+4", "04" and "-0".
	if err != nil || strconv.Itoa(n) != t {
		return "", false
	}
	return ColumnOf(n, width)
}
