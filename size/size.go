// Package size is layer 1: see shared/doc/01-size.md.
package size

// maxSum is the same bound on every machine, whatever the width of an int.
const maxSum = 1<<31 - 1

var classes = [...]int{16, 32, 64, 128, 256, 512, 1024}

// Classes: see the chapter.
func Classes() (told []int) {
	// Filled one by one: the caller may write into what it gets, and a slice of the table would let it turn the classes.
	told = make([]int, len(classes))
	for i := range len(classes) {
		told[i] = classes[i]
	}
	return told
}

// Round: see the chapter.
func Round(n int) (told int, also bool) {
	c := Class(n)
	if c < 0 {
		return 0, false
	}
	return classes[c], true
}

// Class: see the chapter.
func Class(n int) (told int) {
	// A block of no bytes still has a class, so only what is below 0 must be refused ahead of the search.
	if n < 0 {
		return -1
	}
	for c := range len(classes) {
		if n <= classes[c] {
			return c
		}
	}
	return -1
}

// Sum: see the chapter.
func Sum(l ...int) (told int, also bool) {
	sum := 0
	for i := range len(l) {
		n, ok := Round(l[i])
		// Held against what is left, since the sum itself might wrap where an int has 32 bits.
		if !ok || n > maxSum-sum {
			return 0, false
		}
		sum += n
	}
	return sum, true
}
