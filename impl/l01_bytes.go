package impl

const MaxNumber = 1099511627776
const MaxText = 3000
const MaxTexts = 200

// maxNumberBytes is how many bytes MaxNumber takes; reading no more than these, a sum can't wrap round.
const maxNumberBytes = 6

// cursor stands ahead of the first byte of data that is not read yet.
// When one of its methods says false, where it stands means nothing any more.
type cursor struct {
	data []byte
	at   int64
}

func (c *cursor) left() int64 {
	return int64(len(c.data)) - c.at
}

func (c *cursor) number() (int64, bool) {
	n, unit := int64(0), int64(1)
	for i := range min(c.left(), maxNumberBytes) {
		b := int64(c.data[c.at+i])
		n += b % 128 * unit
		unit *= 128
		if b >= 128 {
			continue
		}
		// A nought at the end is one that Number leaves out.
		if n > MaxNumber || b == 0 && i > 0 {
			return 0, false
		}
		c.at += i + 1
		return n, true
	}
	return 0, false
}

func (c *cursor) text() (string, bool) {
	size, ok := c.number()
	// The spare room behind the data is none of them: slicing alone would not refuse it.
	if !ok || size > MaxText || size > c.left() {
		return "", false
	}
	from := c.at
	c.at += size
	return string(c.data[from:c.at]), true
}

// readFirst tells what read finds, and how many bytes c has gone by then.
func readFirst[T any](c *cursor, read func() (T, bool)) (T, int64) {
	value, ok := read()
	if !ok {
		var none T
		return none, 0
	}
	return value, c.at
}

// readMany reads by count how many there are, at most limit, and each by read.
func readMany[T any](count func() (int64, bool), limit int64, read func() (T, bool)) ([]T, bool) {
	n, ok := count()
	if !ok || n > limit {
		return []T{}, false
	}
	list := []T{}
	for range n {
		value, ok := read()
		if !ok {
			return []T{}, false
		}
		list = append(list, value)
	}
	return list, true
}

func Number(n int64) []byte {
	if n < 0 || n > MaxNumber {
		return []byte{}
	}
	out := []byte{}
	for n >= 128 {
		out = append(out, byte(n%128+128))
		n /= 128
	}
	return append(out, byte(n))
}

func ReadNumber(data []byte) (int64, int64) {
	c := &cursor{data: data}
	return readFirst(c, c.number)
}

func Text(s string) []byte {
	if len(s) > MaxText {
		return []byte{}
	}
	return append(Number(int64(len(s))), s...)
}

func ReadText(data []byte) (string, int64) {
	c := &cursor{data: data}
	return readFirst(c, c.text)
}

func Texts(list []string) []byte {
	if len(list) > MaxTexts {
		return []byte{}
	}
	out := Number(int64(len(list)))
	for _, s := range list {
		if len(s) > MaxText {
			return []byte{}
		}
		out = append(out, Text(s)...)
	}
	return out
}

func ReadTexts(data []byte) ([]string, bool) {
	c := &cursor{data: data}
	list, ok := readMany(c.number, MaxTexts, c.text)
	if !ok || c.left() > 0 {
		return []string{}, false
	}
	return list, true
}
