package impl

import (
	"math"
	"strconv"
	"strings"
)

// Limits of chapter 1.
const (
	MaxNumbers = 256
	MaxValue   = 1000000000000000
	MaxItems   = 64
	CheckSize  = 65003
)

// The bits that stand for each not-a-number, and the greatest bits of all.
const (
	nanBits = 2143289344
	maxBits = 4294967295
)

// From wholeFrom on, in either direction, 64-bit numbers of turns are told as whole ones.
const wholeFrom = 1 << 52

const (
	emptyText = "none"
	hexDigits = "0123456789abcdef"
	hexLength = 8
)

// Products that are added to something are converted to their own type first:
// without it, Go may round product and sum as one.

// SameNumber reports whether two numbers are the same.
func SameNumber(a, b float32) bool { return BitsOf(a) == BitsOf(b) }

// IsFinite reports whether x is finite.
func IsFinite(x float32) bool { return isFinite64(float64(x)) }

func isFinite64(x float64) bool { return !math.IsNaN(x) && !math.IsInf(x, 0) }

func notANumber() float32 { return float32(math.NaN()) }

// BitsOf returns the bits of a number.
func BitsOf(x float32) int64 {
	if math.IsNaN(float64(x)) {
		return nanBits
	}
	return int64(math.Float32bits(x))
}

// FromBits returns the number with the given bits.
func FromBits(n int64) (float32, bool) {
	if n < 0 || n > maxBits {
		return 0, false
	}
	return math.Float32frombits(uint32(n)), true
}

// NarrowNumber returns the nearest 32-bit number.
func NarrowNumber(x float64) float32 { return float32(x) }

// IsSubnormal reports whether x is subnormal.
func IsSubnormal(x float32) bool {
	return x != 0 && math.Abs(float64(x)) < math.Ldexp(1, -126)
}

// FlushNumber returns x, but a zero if it is subnormal.
func FlushNumber(x float32) float32 {
	if IsSubnormal(x) {
		return float32(math.Copysign(0, float64(x)))
	}
	return x
}

// SameComplex reports whether two complex numbers are the same.
func SameComplex(a, b complex64) bool {
	return SameNumber(real(a), real(b)) && SameNumber(imag(a), imag(b))
}

// IsFiniteComplex reports whether both parts are finite.
func IsFiniteComplex(x complex64) bool { return IsFinite(real(x)) && IsFinite(imag(x)) }

// NarrowComplex returns a number with narrowed parts.
func NarrowComplex(x complex128) complex64 {
	return complex(NarrowNumber(real(x)), NarrowNumber(imag(x)))
}

// MulComplex returns a product.
func MulComplex(x, y complex64) complex64 { return NarrowComplex(wideProduct(x, y)) }

// wideProduct returns the product with 64-bit parts.
func wideProduct(x, y complex64) complex128 {
	a, b := float64(real(x)), float64(imag(x))
	c, d := float64(real(y)), float64(imag(y))
	return complex(float64(a*c)-float64(b*d), float64(a*d)+float64(b*c))
}

// ScaleComplex returns a product with a number.
func ScaleComplex(x complex64, by float32) complex64 {
	return complex(float32(real(x)*by), float32(imag(x)*by))
}

// ConjugateOf returns the conjugate.
func ConjugateOf(x complex64) complex64 { return complex(real(x), -imag(x)) }

// PowerOf returns the power.
func PowerOf(x complex64) float32 { return NarrowNumber(widePower(x)) }

// widePower returns the power as a 64-bit number.
func widePower(x complex64) float64 {
	a, b := float64(real(x)), float64(imag(x))
	return float64(a*a) + float64(b*b)
}

// LongOf returns the root of the power.
func LongOf(x complex64) float32 { return NarrowNumber(math.Sqrt(widePower(x))) }

// QuotientOf returns a quotient.
func QuotientOf(x, y complex64) complex64 {
	product := wideProduct(x, ConjugateOf(y))
	power := widePower(y)
	return NarrowComplex(complex(real(product)/power, imag(product)/power))
}

// RootNumber returns the square root.
func RootNumber(x float32) float32 { return NarrowNumber(math.Sqrt(float64(x))) }

func fullCircle() float64 { return 6.283185307179586 }

// turnPart returns turns, nearer to 0 than wholeFrom, without the whole ones:
// from 0 to 1, which is there only where it is rounded to.
// The integer taken away has no sign if it is 0, so that -0 stays as it is.
func turnPart(turns float64) float64 {
	part := turns - float64(int64(turns))
	if part < 0 {
		part += 1
	}
	return part
}

// wideSine returns the sine of turns nearer to 0 than wholeFrom.
func wideSine(turns float64) float64 {
	part := turnPart(turns)
	turned := part >= 0.5
	if turned {
		part -= 0.5
	}
	if part > 0.25 {
		part = 0.5 - part
	}
	z := float64(part * fullCircle())
	u := float64(z * z)
	p := 1.0
	for k := 8; k >= 1; k-- {
		p = 1 - float64(u*p)/float64(2*k*(2*k+1))
	}
	sine := float64(z * p)
	if turned {
		return -sine
	}
	return sine
}

// SineTurns returns the sine of some turns.
func SineTurns(x float32) float32 {
	turns := float64(x)
	if !isFinite64(turns) {
		return notANumber()
	}
	if math.Abs(turns) >= wholeFrom {
		return 0
	}
	return NarrowNumber(wideSine(turns))
}

// PhasorOf returns a point of the unit circle.
func PhasorOf(turns float64) complex64 {
	if !isFinite64(turns) {
		return complex(notANumber(), notANumber())
	}
	if math.Abs(turns) >= wholeFrom {
		return 1
	}
	part := turnPart(turns)
	quarters := 0
	for part >= 0.25 {
		part -= 0.25
		quarters++
	}
	c, s := wideSine(0.25-part), wideSine(part)
	// 0 - s is not -s: a zero gets no sign.
	switch quarters {
	case 1:
		return NarrowComplex(complex(0-s, c))
	case 2:
		return NarrowComplex(complex(0-c, 0-s))
	case 3:
		return NarrowComplex(complex(s, 0-c))
	}
	return NarrowComplex(complex(c, s))
}

// AngleOf returns the angle in turns.
func AngleOf(x complex64) float32 { return AngleTurns(imag(x), real(x)) }

// AngleTurns returns the angle of a point.
func AngleTurns(y, x float32) float32 {
	if !IsFinite(y) || !IsFinite(x) {
		return notANumber()
	}
	if y == 0 && x == 0 {
		return 0
	}
	a, b := math.Abs(float64(y)), math.Abs(float64(x))
	steep := a > b
	if steep {
		a, b = b, a
	}
	angle := flatAngle(a / b)
	if steep {
		angle = 0.25 - angle
	}
	if x < 0 {
		angle = 0.5 - angle
	}
	if y < 0 {
		angle = -angle
	}
	return NarrowNumber(angle)
}

// flatAngle returns the turns of the angle with a tangent from 0 to 1.
func flatAngle(t float64) float64 {
	for range 3 {
		t = t / (1 + math.Sqrt(1+float64(t*t)))
	}
	u := float64(t * t)
	p := 0.0
	for k := 15; k >= 1; k -= 2 {
		p = 1/float64(k) - float64(u*p)
	}
	return 8 * float64(t*p) / fullCircle()
}

// TenthsOf returns tenths of decibels.
func TenthsOf(power float32) (int64, bool) {
	if !IsFinite(power) || power <= 0 {
		return 0, false
	}
	const tenths = 43.42944819032518
	return int64(math.Floor(float64(wideLog(float64(power))*tenths) + 0.5)), true
}

// wideLog returns the logarithm of a finite number greater than 0.
func wideLog(x float64) float64 {
	const logOfTwo = 0.6931471805599453
	doubles := 0
	for x >= 1.5 {
		x /= 2
		doubles++
	}
	for x < 0.75 {
		x *= 2
		doubles--
	}
	s := (x - 1) / (x + 1)
	u := float64(s * s)
	q := 0.0
	for k := 25; k >= 1; k -= 2 {
		q = 1/float64(k) + float64(u*q)
	}
	return float64(2*float64(s*q)) + float64(float64(doubles)*logOfTwo)
}

// LogNumber returns the logarithm.
func LogNumber(x float32) float32 {
	wide := float64(x)
	switch {
	case math.IsNaN(wide) || wide < 0:
		return notANumber()
	case wide == 0:
		return float32(math.Inf(-1))
	case math.IsInf(wide, 1):
		return x
	}
	return NarrowNumber(wideLog(wide))
}

// ExpNumber returns e to a power.
func ExpNumber(x float32) float32 {
	if x > 200 {
		return float32(math.Inf(1))
	}
	if x < -200 {
		return 0
	}
	t := float64(x) / 256
	p := 1.0
	for k := 12; k >= 1; k-- {
		p = 1 + float64(t*p)/float64(k)
	}
	for range 8 {
		p = float64(p * p)
	}
	return NarrowNumber(p)
}

// SumNumbers returns the sum from left to right.
func SumNumbers(list []float32) (float32, bool) {
	if len(list) > MaxNumbers {
		return 0, false
	}
	sum := float32(0)
	for _, x := range list {
		sum += x
	}
	return sum, true
}

// DotNumbers returns the sum of products.
func DotNumbers(a, b []float32) (float32, bool) {
	if len(a) != len(b) || len(a) > MaxNumbers {
		return 0, false
	}
	sum := float32(0)
	for i, x := range a {
		sum += float32(x * b[i])
	}
	return sum, true
}

// SumComplex returns the sum from left to right.
func SumComplex(list []complex64) (complex64, bool) {
	if len(list) > MaxNumbers {
		return 0, false
	}
	sum := complex64(0)
	for _, x := range list {
		sum += x
	}
	return sum, true
}

// DotComplex returns the sum of products.
func DotComplex(a, b []complex64) (complex64, bool) {
	if len(a) != len(b) || len(a) > MaxNumbers {
		return 0, false
	}
	sum := complex64(0)
	for i, x := range a {
		sum += MulComplex(x, b[i])
	}
	return sum, true
}

// DotConjugate returns the sum of products with conjugates.
func DotConjugate(a, b []complex64) (complex64, bool) {
	if len(a) != len(b) || len(a) > MaxNumbers {
		return 0, false
	}
	sum := complex64(0)
	for i, x := range a {
		sum += MulComplex(ConjugateOf(x), b[i])
	}
	return sum, true
}

// PowersOf returns the sum of powers.
func PowersOf(list []complex64) (float32, bool) {
	if len(list) > MaxNumbers {
		return 0, false
	}
	sum := 0.0
	for _, x := range list {
		sum += widePower(x)
	}
	return NarrowNumber(sum), true
}

// NumbersText returns the text of numbers.
func NumbersText(list []float32) (string, bool) { return itemsText(list, MaxNumbers, bitsText) }

// ReadNumbers returns the numbers with the given text.
func ReadNumbers(s string) ([]float32, bool) { return readItems(s, MaxNumbers, readBits) }

// ComplexText returns the text of complex numbers.
func ComplexText(list []complex64) (string, bool) { return itemsText(list, MaxNumbers, partsText) }

// ReadComplex returns the complex numbers with the given text.
func ReadComplex(s string) ([]complex64, bool) { return readItems(s, MaxNumbers, readParts) }

// itemsText returns the text of a list of at most most items, of which write tells each one.
func itemsText[T any](list []T, most int, write func(T) (string, bool)) (string, bool) {
	if len(list) > most {
		return "", false
	}
	if len(list) == 0 {
		return emptyText, true
	}
	texts := make([]string, len(list))
	for i, x := range list {
		text, ok := write(x)
		if !ok {
			return "", false
		}
		texts[i] = text
	}
	return strings.Join(texts, ","), true
}

// readItems returns the list whose text is s, of at most most items, each of which read reads.
func readItems[T any](s string, most int, read func(string) (T, bool)) ([]T, bool) {
	if s == emptyText {
		return []T{}, true
	}
	if strings.Count(s, ",") >= most {
		return nil, false
	}
	texts := strings.Split(s, ",")
	list := make([]T, len(texts))
	for i, text := range texts {
		x, ok := read(text)
		if !ok {
			return nil, false
		}
		list[i] = x
	}
	return list, true
}

func bitsText(x float32) (string, bool) {
	bits := BitsOf(x)
	text := make([]byte, hexLength)
	for i := range text {
		text[hexLength-1-i] = hexDigits[bits%16]
		bits /= 16
	}
	return string(text), true
}

// readBits fails for bits of not-a-numbers that BitsOf never returns.
func readBits(s string) (float32, bool) {
	if len(s) != hexLength {
		return 0, false
	}
	bits := int64(0)
	for _, r := range s {
		digit, ok := hexValue(r)
		if !ok {
			return 0, false
		}
		bits = 16*bits + digit
	}
	x, ok := FromBits(bits)
	if !ok || BitsOf(x) != bits {
		return 0, false
	}
	return x, true
}

func hexValue(r rune) (int64, bool) {
	switch {
	case r >= '0' && r <= '9':
		return int64(r - '0'), true
	case r >= 'a' && r <= 'f':
		return int64(r-'a') + 10, true
	}
	return 0, false
}

func partsText(x complex64) (string, bool) {
	re, _ := bitsText(real(x))
	im, _ := bitsText(imag(x))
	return re + im, true
}

func readParts(s string) (complex64, bool) {
	if len(s) != 2*hexLength {
		return 0, false
	}
	re, ok := readBits(s[:hexLength])
	if !ok {
		return 0, false
	}
	im, ok := readBits(s[hexLength:])
	if !ok {
		return 0, false
	}
	return complex(re, im), true
}

// IsName reports whether s is a name.
func IsName(s string) bool {
	if len(s) < 1 || len(s) > 8 {
		return false
	}
	for _, r := range s {
		if r < 'a' || r > 'z' {
			return false
		}
	}
	return true
}

// Decimal returns n in decimal.
func Decimal(n int64) string { return strconv.FormatInt(n, 10) }

func isValue(n int64) bool { return n >= -MaxValue && n <= MaxValue }

// ReadDecimal returns the number with the given decimal text.
// Writing the number again finds signs and zeros that Decimal does not write.
func ReadDecimal(s string) (int64, bool) {
	n, err := strconv.ParseInt(s, 10, 64)
	if err != nil || !isValue(n) || Decimal(n) != s {
		return 0, false
	}
	return n, true
}

// ListText returns the text of a list.
func ListText(list []int64) (string, bool) { return itemsText(list, MaxItems, valueText) }

func valueText(n int64) (string, bool) {
	if !isValue(n) {
		return "", false
	}
	return Decimal(n), true
}

// ReadList returns the list with the given text.
func ReadList(s string) ([]int64, bool) { return readItems(s, MaxItems, ReadDecimal) }

// CheckOf returns the check number of a text.
func CheckOf(start int64, s string) (int64, bool) {
	if start < 0 || start >= CheckSize {
		return 0, false
	}
	check := start
	for i := range len(s) {
		check = (983*check + int64(s[i]) + 239) % CheckSize
	}
	return check, true
}
