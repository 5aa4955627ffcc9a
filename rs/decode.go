package rs

import (
	"slices"

	"strongroom/api"
	"strongroom/matrix"
)

// Decode gives the first K blocks of any K, whose numbers are told.
func (c *Code) Decode(numbers []int, blocks [][]byte) ([][]byte, api.Errno) {
	if e := c.refused(numbers, blocks, 0); e != api.OK {
		return nil, e
	}
	numbers, blocks = homed(numbers, blocks)
	back, e := c.back(numbers)
	if e != api.OK {
		return nil, e
	}
	return products(back, blocks), api.OK
}

// Make gives one block of any K.
func (c *Code) Make(numbers []int, blocks [][]byte, want int) ([]byte, api.Errno) {
	if e := c.refused(numbers, blocks, want); e != api.OK {
		return nil, e
	}
	numbers, blocks = homed(numbers, blocks)
	back, e := c.back(numbers)
	if e != api.OK {
		return nil, e
	}
	wanted, e := c.rows.Pick(want)
	if e != api.OK {
		return nil, e
	}
	// The two matrices are multiplied, and not the blocks twice: these may be long.
	whole, e := wanted.Mul(back)
	if e != api.OK {
		return nil, e
	}
	return mixed(row(whole, 0), blocks), api.OK
}

// refused tells the first thing that keeps the wanted block from being made of those of the numbers.
func (c *Code) refused(numbers []int, blocks [][]byte, want int) api.Errno {
	if !c.made() {
		return api.ErrNil
	}
	if len(numbers) != c.K() || len(blocks) != c.K() {
		return api.ErrBlocks
	}
	if !c.unlike(numbers) || !c.has(want) {
		return api.ErrNumbers
	}
	return fit(blocks, c.K())
}

// unlike tells whether all numbers are those of blocks, and none stands twice.
func (c *Code) unlike(numbers []int) bool {
	good := 0
look:
	for i, number := range numbers {
		if !c.has(number) {
			break
		}
		for _, ahead := range numbers[:i] {
			if ahead == number {
				break look
			}
		}
		good++
	}
	return good == len(numbers)
}

// homed gives the numbers and their blocks in another order: each of the first K is at the place of its own number. The matrix of their rows is then the identity but for the rows in the other places, and is turned over the sooner.
func homed(numbers []int, blocks [][]byte) ([]int, [][]byte) {
	numbers, blocks = slices.Clone(numbers), slices.Clone(blocks)
	for at := range numbers {
		for numbers[at] < len(numbers) && numbers[at] != at {
			home := numbers[at]
			numbers[at], numbers[home] = numbers[home], numbers[at]
			blocks[at], blocks[home] = blocks[home], blocks[at]
		}
	}
	return numbers, blocks
}

// back gives the matrix that leads from the blocks of these numbers to the first K.
func (c *Code) back(numbers []int) (*matrix.Matrix[byte], api.Errno) {
	picked, e := c.rows.Pick(numbers...)
	if e != api.OK {
		return nil, e
	}
	return picked.Inverse()
}
