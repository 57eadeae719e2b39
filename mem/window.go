package mem

import "playpen/api"

// Copy reads n bytes, then writes them.
func (m *Memory) Copy(to, from, n uint32) api.Errno {
	if !m.isMade() {
		return api.ErrNil
	}
	if n > api.MaxWindow {
		return api.ErrWindow
	}
	window := make([]byte, n)
	m.read(from, window)
	m.write(to, window)
	return api.OK
}

// Read reads a window.
func (m *Memory) Read(at uint32, n int) ([]byte, api.Errno) {
	if !m.isMade() {
		return nil, api.ErrNil
	}
	if n < 0 || n > api.MaxWindow {
		return nil, api.ErrWindow
	}
	window := make([]byte, n)
	m.read(at, window)
	return window, api.OK
}

// Write writes a window.
func (m *Memory) Write(at uint32, b []byte) api.Errno {
	if !m.isMade() {
		return api.ErrNil
	}
	if len(b) > api.MaxWindow {
		return api.ErrWindow
	}
	m.write(at, b)
	return api.OK
}

// read fills a window with the bytes from an address on. Behind the segment's last byte comes its first one, so a stretch is moved in as many pieces as there are ends in it.
func (m *Memory) read(at uint32, window []byte) {
	m.note(len(window), func(i int) api.Touch {
		return api.Touch{At: m.place(at + uint32(i))}
	})
	for place := m.place(at); len(window) > 0; place = 0 {
		window = window[copy(window, m.bytes[place:]):]
	}
}

// write lays bytes down from an address on; the later ones stay where they go round to the earlier ones' places.
func (m *Memory) write(at uint32, b []byte) {
	m.note(len(b), func(i int) api.Touch {
		return api.Touch{At: m.place(at + uint32(i)), Write: true}
	})
	for place := m.place(at); len(b) > 0; place = 0 {
		b = b[copy(m.bytes[place:], b):]
	}
}

// place tells the number of the byte at an address.
func (m *Memory) place(at uint32) uint32 {
	return at & uint32(len(m.bytes)-1)
}
