package tests

import (
	"fmt"
	"math"
	"slices"
	"strings"
	"testing"

	"loop.example/g01401/impl"
)

// told returns the results of a call, not-a-numbers and zeros with signs included.
func told(results ...any) string { return fmt.Sprint(results...) }

func callsOfOne(x float32) string {
	tenths, ok := impl.TenthsOf(x)
	return told(impl.IsFinite(x), impl.BitsOf(x), impl.IsSubnormal(x), impl.FlushNumber(x), tenths, ok,
		impl.RootNumber(x), impl.ExpNumber(x), impl.LogNumber(x), impl.SineTurns(x))
}

func callsOfTwo(a, b float32) string {
	x, y := complex(a, b), complex(b, a)
	return told(impl.SameNumber(a, b), impl.SameComplex(x, y), impl.IsFiniteComplex(x), impl.MulComplex(x, y),
		impl.ScaleComplex(x, b), impl.ConjugateOf(x), impl.PowerOf(x), impl.LongOf(x), impl.QuotientOf(x, y),
		impl.AngleOf(x), impl.AngleTurns(a, b), impl.NarrowComplex(complex(float64(a), float64(b))))
}

func callsOfWide(x float64) string { return told(impl.NarrowNumber(x), impl.PhasorOf(x)) }

func callsOfIntegers(n int64) string {
	x, one := impl.FromBits(n)
	check, two := impl.CheckOf(n, "text")
	return told(x, one, check, two, impl.Decimal(n))
}

func callsOfText(s string) string {
	reals, one := impl.ReadNumbers(s)
	parts, two := impl.ReadComplex(s)
	n, three := impl.ReadDecimal(s)
	list, four := impl.ReadList(s)
	check, five := impl.CheckOf(0, s)
	return told(reals, one, parts, two, n, three, list, four, check, five, impl.IsName(s))
}

func TestCallsReturnEqualResults(t *testing.T) {
	for _, a := range specialBits {
		x := number(a)
		wantEqual(t, callsOfOne(x), callsOfOne(x), "calls of one number", x)
		for _, b := range specialBits {
			y := number(b)
			wantEqual(t, callsOfTwo(x, y), callsOfTwo(x, y), "calls of two numbers", x, y)
		}
	}
	strideBits(func(bits uint32) {
		x, y := number(bits), number(bits*2654435761)
		wide := math.Float64frombits(uint64(bits)<<32 | uint64(bits)*2654435761)
		wantEqual(t, callsOfOne(x), callsOfOne(x), "calls of one number", x)
		wantEqual(t, callsOfTwo(x, y), callsOfTwo(x, y), "calls of two numbers", x, y)
		wantEqual(t, callsOfWide(wide), callsOfWide(wide), "calls of a 64-bit number", wide)
	})
	for _, n := range []int64{math.MinInt64, -1, 0, 1, 65002, 65003, 2143289344, 4294967295, 4294967296, math.MaxInt64} {
		wantEqual(t, callsOfIntegers(n), callsOfIntegers(n), "calls of an integer", n)
	}
}

func TestReadersReturnForAllTexts(t *testing.T) {
	texts := []string{strings.Repeat(",", 1<<20), strings.Repeat("9", 1<<20), strings.Repeat("3f800000,", 1<<16), strings.Repeat("\xff", 1<<16)}
	texts = append(texts, badBits...)
	texts = append(texts, badDecimals...)
	const pieces = "09af,-none\x00\xff\u00e9 "
	seed := uint32(1)
	for range 2000 {
		text := []byte{}
		for range 1 + seed>>28 {
			seed = seed*1664525 + 1013904223
			text = append(text, pieces[int(seed>>16)%len(pieces)])
		}
		texts = append(texts, string(text))
	}
	for _, s := range texts {
		wantEqual(t, callsOfText(s), callsOfText(s), "calls of a text")
	}
}

// spare returns list with unused capacity behind it, and all of its memory.
func spare[T any](list []T, filler T) ([]T, []T) {
	whole := append(slices.Clone(list), filler, filler, filler)
	return whole[:len(list)], whole
}

func TestNumberListsAreNotModified(t *testing.T) {
	reals, whole := spare(numbers(specialBits), 7)
	before := slices.Clone(whole)
	impl.SumNumbers(reals)
	impl.DotNumbers(reals, reals)
	impl.NumbersText(reals)
	wantEqual(t, sameList(whole, before), true, "lists of numbers stay")

	parts := make([]complex64, len(specialBits))
	for i, b := range specialBits {
		parts[i] = cnumber(b, specialBits[len(specialBits)-1-i])
	}
	parts, wholeParts := spare(parts, complex(7, 8))
	beforeParts := slices.Clone(wholeParts)
	impl.SumComplex(parts)
	impl.DotComplex(parts, parts)
	impl.DotConjugate(parts, parts)
	impl.PowersOf(parts)
	impl.ComplexText(parts)
	wantEqual(t, slices.EqualFunc(wholeParts, beforeParts, impl.SameComplex), true, "lists of complex numbers stay")

	integers, wholeIntegers := spare([]int64{3, -1, math.MaxInt64}, 9)
	beforeIntegers := slices.Clone(wholeIntegers)
	impl.ListText(integers)
	impl.ListText(integers[:2])
	wantEqual(t, slices.Equal(wholeIntegers, beforeIntegers), true, "lists of integers stay")
}

func TestListsReadAreNewEachTime(t *testing.T) {
	for _, s := range []string{"3f800000,c0000000", "3f800000"} {
		first, _ := impl.ReadNumbers(s)
		second, _ := impl.ReadNumbers(s)
		first[0] = 9
		wantNumber(t, second[0], oneBits, "ReadNumbers shares nothing", s)
	}
	first, _ := impl.ReadComplex("3f80000000000000")
	second, _ := impl.ReadComplex("3f80000000000000")
	first[0] = 9
	wantComplex(t, second[0], oneBits, zeroBits, "ReadComplex shares nothing")
	one, _ := impl.ReadList("1,2")
	two, _ := impl.ReadList("1,2")
	one[0] = 9
	wantEqual(t, two[0], 1, "ReadList shares nothing")
}
