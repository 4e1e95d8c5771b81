package impl

// VarMax is the largest number, without a sign.
const VarMax = 1000000

const (
	byteMax  = 255
	partBits = 7             // bits of a folded number in one byte
	moreBit  = 1 << partBits // set in a byte if a further one follows
	varMost  = 3             // bytes that the largest folded number has
)

// FoldNumber returns a number with a sign as one without.
func FoldNumber(n int) int {
	if n < -VarMax || n > VarMax {
		return -1
	}
	if n < 0 {
		return -n<<1 - 1
	}
	return n << 1
}

// UnfoldNumber returns the number with a sign of one without.
func UnfoldNumber(n int) int {
	if n < 0 || n > VarMax<<1 {
		return 0
	}
	if n&1 == 1 {
		return -(n >> 1) - 1
	}
	return n >> 1
}

// VarBytes returns a number as bytes, seven bits in each.
func VarBytes(n int) ([]int, bool) {
	folded := FoldNumber(n)
	if folded < 0 {
		return nil, false
	}
	result := make([]int, 0, varMost)
	for folded >= moreBit {
		result = append(result, folded&(moreBit-1)|moreBit)
		folded >>= partBits
	}
	return append(result, folded), true
}

// VarFrom returns the number at a place of bytes, and the place behind it.
func VarFrom(bytes []int, at int) (int, int, bool) {
	if !areBytes(bytes) || at < 0 || at >= len(bytes) {
		return 0, 0, false
	}
	folded, many := joinParts(bytes[at:])
	if many == 0 || folded > VarMax<<1 {
		return 0, 0, false
	}
	return UnfoldNumber(folded), at + many, true
}

// VarSize returns how many bytes a number has.
func VarSize(n int) int {
	bytes, ok := VarBytes(n)
	if !ok {
		return -1
	}
	return len(bytes)
}

// joinParts returns the folded number at the beginning of bytes and how many of them it has, or 0 and 0 if there is none.
func joinParts(bytes []int) (int, int) {
	folded := 0
	for i, b := range bytes[:min(len(bytes), varMost)] {
		folded |= (b & (moreBit - 1)) << (i * partBits)
		if b >= moreBit {
			continue
		}
		// A last byte of 0 adds nothing: the number has a form with fewer bytes, the only one that is valid.
		if b == 0 && i > 0 {
			return 0, 0
		}
		return folded, i + 1
	}
	return 0, 0
}

// areBytes reports whether all numbers are bytes.
func areBytes(list []int) bool {
	for _, n := range list {
		if n < 0 || n > byteMax {
			return false
		}
	}
	return true
}
