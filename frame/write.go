package frame

import (
	"narthex/api"
	"narthex/octet"
)

// What a Stream's Kind, as it is written, tells of what follows.
const (
	withFin = 1 << iota
	withLength
	withOffset
	streamBits = withFin | withLength | withOffset
)

// write writes f, which is Right: its Kind, then what that asks, in order.
func write(w *octet.Writer, f api.Frame) {
	w.Var(writtenKind(f))
	switch f.Kind {
	case api.Ack:
		writeAck(w, f)
	case api.Reset:
		writeVars(w, f.Stream, f.Code, f.Final)
	case api.Stop:
		writeVars(w, f.Stream, f.Code)
	case api.Crypto:
		w.Var(f.Offset)
		w.Text(f.Data)
	case api.Stream:
		w.Var(f.Stream)
		if f.Offset > 0 {
			w.Var(f.Offset)
		}
		w.Text(f.Data)
	case api.MaxData, api.MaxStreamsOf, api.Blocked:
		w.Var(f.Limit)
	case api.MaxStreamData:
		writeVars(w, f.Stream, f.Limit)
	case api.NewCID:
		writeVars(w, f.Seq, f.Limit)
		w.Byte(byte(len(f.CID)))
		w.Raw(f.CID[:])
	case api.Retire:
		w.Var(f.Seq)
	case api.Challenge, api.Response:
		w.Raw(f.CID[:])
	case api.Close:
		w.Var(f.Code)
		w.Text(f.Data)
	}
}

// writtenKind is f's Kind as it is written.
func writtenKind(f api.Frame) uint64 {
	kind := uint64(f.Kind)
	if f.Kind != api.Stream {
		return kind
	}
	kind |= withLength
	if f.Offset > 0 {
		kind |= withOffset
	}
	if f.Fin {
		kind |= withFin
	}
	return kind
}

// writeVars writes each of l as a Var.
func writeVars(w *octet.Writer, l ...uint64) {
	for _, n := range l {
		w.Var(n)
	}
}

// writeAck writes an Ack's ranges from the greatest one down, each by how far it lies below the one behind it.
func writeAck(w *octet.Writer, f api.Frame) {
	below := len(f.Ranges) - 1
	behind := f.Ranges[below]
	writeVars(w, behind.Hi-1, f.Delay, uint64(below), behind.Hi-1-behind.Lo)
	for i := below - 1; i >= 0; i-- {
		r := f.Ranges[i]
		writeVars(w, behind.Lo-r.Hi-1, r.Hi-1-r.Lo)
		behind = r
	}
}
