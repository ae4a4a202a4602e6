package frame

import (
	"slices"

	"narthex/api"
	"narthex/octet"
)

// read is the frame that r goes on with, and true; false, if bytes lack, or it is none that is Right.
func read(r *octet.Reader) (api.Frame, bool) {
	kind := r.Var()
	// Held against the greatest Kind ahead of the conversion: not every int holds a Var.
	if kind > api.Done {
		return api.Frame{}, false
	}
	f := api.Frame{Kind: int(kind)}
	if kind&^streamBits == api.Stream {
		f.Kind = api.Stream
	}
	switch f.Kind {
	case api.Ack:
		f.Ranges, f.Delay = readAck(r)
	case api.Reset:
		f.Stream, f.Code, f.Final = r.Var(), r.Var(), r.Var()
	case api.Stop:
		f.Stream, f.Code = r.Var(), r.Var()
	case api.Crypto:
		f.Offset, f.Data = r.Var(), r.Text()
	case api.Stream:
		f.Stream = r.Var()
		if kind&withOffset != 0 {
			f.Offset = r.Var()
		}
		f.Data = readData(r, kind&withLength != 0)
		f.Fin = kind&withFin != 0
	case api.MaxData, api.MaxStreamsOf, api.Blocked:
		f.Limit = r.Var()
	case api.MaxStreamData:
		f.Stream, f.Limit = r.Var(), r.Var()
	case api.NewCID:
		f.Seq, f.Limit = r.Var(), r.Var()
		if int(r.Byte()) != len(f.CID) {
			return api.Frame{}, false
		}
		f.CID = readCID(r)
	case api.Retire:
		f.Seq = r.Var()
	case api.Challenge, api.Response:
		f.CID = readCID(r)
	case api.Close:
		f.Code, f.Data = r.Var(), r.Text()
	}
	// Bad is asked at the end alone: a reader that was bad once reads zeros, and stays so.
	if r.Bad() || !Right(f) {
		return api.Frame{}, false
	}
	return f, true
}

// readData is a Stream's Data: a Text, or all that is left.
func readData(r *octet.Reader, hasLength bool) []byte {
	if hasLength {
		return r.Text()
	}
	return r.Raw(r.Left())
}

// readCID is the eight bytes of a name.
func readCID(r *octet.Reader) api.CID {
	var c api.CID
	copy(c[:], r.Raw(len(c)))
	return c
}

// readAck is an Ack's Ranges and Delay. What goes below 0 wraps round to a range that is not below the one behind it, or whose Lo is not below its Hi: Right refuses it.
func readAck(r *octet.Reader) ([]api.Range, uint64) {
	greatest, delay, below, more := r.Var(), r.Var(), r.Var(), r.Var()
	// Asked ahead of the loop, which might not end in a lifetime: of no ranges the Ack is not Right either.
	if below >= api.MaxRanges {
		return nil, delay
	}
	behind := api.Range{Lo: greatest - more, Hi: greatest + 1}
	l := []api.Range{behind}
	for range below {
		gap, more := r.Var(), r.Var()
		hi := behind.Lo - gap - 1
		behind = api.Range{Lo: hi - 1 - more, Hi: hi}
		l = append(l, behind)
	}
	slices.Reverse(l)
	return l, delay
}
