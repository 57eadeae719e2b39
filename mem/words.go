package mem

// Load1 reads a byte.
func (m *Memory) Load1(at uint32) uint32 { return m.load(at, 1) }

// Load2 reads two bytes.
func (m *Memory) Load2(at uint32) uint32 { return m.load(at, 2) }

// Load4 reads four bytes.
func (m *Memory) Load4(at uint32) uint32 { return m.load(at, 4) }

// Store1 writes a byte.
func (m *Memory) Store1(at, v uint32) { m.store(at, v, 1) }

// Store2 writes two bytes.
func (m *Memory) Store2(at, v uint32) { m.store(at, v, 2) }

// Store4 writes four bytes.
func (m *Memory) Store4(at, v uint32) { m.store(at, v, 4) }

// load reads so many of four places; the others count as noughts, so that one sum does for all sizes.
func (m *Memory) load(at uint32, count int) uint32 {
	if !m.isMade() {
		return 0
	}
	var four [4]byte
	m.read(at, four[:count])
	return uint32(four[0]) | uint32(four[1])<<8 | uint32(four[2])<<16 | uint32(four[3])<<24
}

// store writes so many of a word's four bytes.
func (m *Memory) store(at, v uint32, count int) {
	if !m.isMade() {
		return
	}
	four := [4]byte{byte(v), byte(v >> 8), byte(v >> 16), byte(v >> 24)}
	m.write(at, four[:count])
}
