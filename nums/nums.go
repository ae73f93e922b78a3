// Package nums is layer 1: numbers and texts as bytes. See shared/doc/01-nums.md.
package nums

// lengthBytes is how many bytes tell a text's length, maxText the greatest length that they can tell.
const (
	lengthBytes = 2
	maxText     = 1<<(8*lengthBytes) - 1
)

// maxSize is how many bytes a number has.
const maxSize = 8

// Put is a number's bytes, the highest first: so numbers of one size stand to each other as their bytes do.
func Put(n uint64, size int) string {
	if size < 1 || size > maxSize {
		return ""
	}
	b := make([]byte, size)
	for i := range size {
		b[size-1-i] = byte(n >> (8 * i))
	}
	return string(b)
}

// Get is the number of bytes, the highest first. What stands behind the eighth is left, not an error: so a number is got where it stands ahead of other things.
func Get(s string) uint64 {
	var n uint64
	for i := range min(len(s), maxSize) {
		n = n<<8 | uint64(s[i])
	}
	return n
}

// Text is a text with its length ahead of it; nothing, if its length finds no room there, so that nothing is put that would be read as another text.
func Text(s string) string {
	if len(s) > maxText {
		return ""
	}
	return Put(uint64(len(s)), lengthBytes) + s
}

// Read is a text that stands ahead, and what is behind it.
func Read(s string) (text, rest string, ok bool) {
	if len(s) < lengthBytes {
		return "", "", false
	}
	end := lengthBytes + int(Get(s[:lengthBytes]))
	if len(s) < end {
		return "", "", false
	}
	return s[lengthBytes:end], s[end:], true
}
