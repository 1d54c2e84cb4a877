package codec

const (
	sumRule  = 0xedb88320 // the lowest bit is the highest power
	sumStart = 0xffffffff
)

// Sum: of bytes. (P16.3)
func Sum(b []byte) uint32 {
	table := sumTable()
	x := uint32(sumStart)
	for _, c := range b {
		x = x>>8 ^ table[byte(x)^c]
	}
	return ^x
}

// sumTable: what each byte does to a sum. It is made, since tables that are written out are short.
func sumTable() [256]uint32 {
	var table [256]uint32
	for i := range table {
		x := uint32(i)
		for range 8 {
			x = x>>1 ^ sumRule&-(x&1)
		}
		table[i] = x
	}
	return table
}
