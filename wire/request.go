package wire

import (
	"math"

	"tabularium/api"
	"tabularium/codec"
)

// PutRequest is r's bytes, in the one way there is to write it (P16.1, P16.3).
func PutRequest(r api.Request) ([]byte, api.Errno) {
	if !mayAsk(r) {
		return nil, api.ErrWire
	}
	w := &codec.Writer{}
	w.N(asRequest, uint64(r.Client), r.Seq, uint64(r.Kind), uint64(r.Tenant))
	w.Text([]byte(r.Name))
	w.Raw(r.Id[:])
	w.Raw(r.Old[:])
	w.N(r.N)
	w.Text(r.Body)
	return w.Bytes(), api.OK
}

// OfRequest is the request with just these bytes (P16.1, P16.3).
func OfRequest(b []byte) (api.Request, api.Errno) {
	from := codec.Read(b)
	as := from.N(asRequest)
	r := api.Request{
		Client: uint32(from.N(math.MaxUint32)),
		Seq:    from.N(math.MaxUint64),
		Kind:   int(from.N(api.ReqDone)),
		Tenant: uint32(from.N(math.MaxUint32)),
		Name:   string(from.Text(api.MaxName)),
		Id:     nextId(from),
		Old:    nextId(from),
		N:      from.N(math.MaxUint64),
		Body:   from.Text(maxBody),
	}
	if from.End() != api.OK || as != asRequest || !mayAsk(r) {
		return api.Request{}, api.ErrWire
	}
	return r, api.OK
}

// mayAsk says whether r is such as PutRequest writes (P16.1).
func mayAsk(r api.Request) bool {
	return r.Kind >= api.ReqTenant && r.Kind <= api.ReqDone &&
		len(r.Name) <= api.MaxName && len(r.Body) <= maxBody
}
