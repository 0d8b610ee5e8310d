package scroll

import (
	"bytes"

	"quadrille/api"
	"quadrille/ink"
)

// Parts answers how many parts a batch of these records has.
func Parts(l [][]byte) int {
	// The lengths alone are written: the records themselves needn't be copied to be counted.
	p := ink.New()
	n := 0
	for _, t := range l {
		p.Int(len(t))
		n += len(t)
	}
	n += len(p.Bytes())
	return max((n+api.Payload-1)/api.Payload, 1)
}

// partsOfOne answers how many parts a batch of this record alone has.
func partsOfOne(t []byte) int {
	return Parts([][]byte{t})
}

// together answers the bytes of a batch.
func together(l [][]byte) []byte {
	p := ink.New()
	for _, t := range l {
		p.Text(t)
	}
	return p.Bytes()
}

// apart answers the records of a batch's bytes; false: they are none.
func apart(p []byte) ([][]byte, bool) {
	var l [][]byte
	eye := ink.Read(p)
	for eye.Left() > 0 {
		l = append(l, eye.Text())
	}
	return l, eye.End() == api.OK
}

// clones answers copies of the records.
func clones(l [][]byte) [][]byte {
	var copies [][]byte
	for _, t := range l {
		copies = append(copies, bytes.Clone(t))
	}
	return copies
}
