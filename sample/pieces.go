package sample

// Cuts cuts a stream into pieces of up to so many bytes, some of them of none.
func (s *Source) Cuts(stream string, most int) []string {
	var l []string
	for stream != "" {
		n := min(len(stream), s.Below(most+1))
		l, stream = append(l, stream[:n]), stream[n:]
	}
	return append(l, "")
}

// CutAt cuts a stream behind each byte whose bit is set: the lowest one is that of the first byte.
func CutAt(stream string, bits int) []string {
	var l []string
	from := 0
	for at := 1; at < len(stream); at++ {
		if bits>>(at-1)&1 == 1 {
			l, from = append(l, stream[from:at]), at
		}
	}
	return append(l, stream[from:])
}

// CutEach cuts a stream into pieces of so many bytes each, the last one of fewer.
func CutEach(stream string, size int) []string {
	var l []string
	for at := 0; at < len(stream); at += size {
		l = append(l, stream[at:min(at+size, len(stream))])
	}
	return l
}
