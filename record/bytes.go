package record

import (
	"math"

	"scrutineer/api"
	"scrutineer/ballot"
	"scrutineer/conf"
	"scrutineer/pack"
	"scrutineer/reg"
)

// Put is a record's bytes.
func Put(r api.Rec) ([]byte, api.Errno) {
	if !May(r) {
		return nil, api.ErrForm
	}
	b := pack.PutNum(nil, uint64(r.Kind))
	switch r.Kind {
	case api.RecSlot:
		return putSlot(b, r)
	case api.RecGone:
		b = pack.PutNum(b, uint64(r.Key))
	case api.RecFence:
		b = pack.PutNum(b, r.Fence)
	case api.RecLife:
		b = pack.PutNum(b, uint64(r.Life))
	case api.RecConf:
		b = conf.Put(b, r.Conf)
	}
	return b, api.OK
}

// putSlot puts a key, what was promised, and what was accepted.
func putSlot(b []byte, r api.Rec) ([]byte, api.Errno) {
	b = pack.PutNum(b, uint64(r.Key))
	b = ballot.Put(b, r.Promise)
	b = ballot.Put(b, r.Acc)
	return reg.Put(b, r.Reg)
}

// Get is the record of bytes.
func Get(b []byte) (api.Rec, api.Errno) {
	p := pack.New(b)
	r := take(p)
	if e := p.End(); e != api.OK {
		return api.Rec{}, e
	}
	if !May(r) {
		return api.Rec{}, api.ErrForm
	}
	return r, api.OK
}

// take takes a record, which may be or not.
func take(p *pack.Reader) api.Rec {
	r := api.Rec{Kind: small(p)}
	switch r.Kind {
	case api.RecSlot:
		r.Key = small(p)
		r.Promise = ballot.Get(p)
		r.Acc = ballot.Get(p)
		r.Reg = reg.Get(p)
	case api.RecGone:
		r.Key = small(p)
	case api.RecFence:
		r.Fence = p.Num(math.MaxUint64)
	case api.RecLife:
		r.Life = uint32(p.Num(math.MaxUint32))
	case api.RecConf:
		r.Conf = conf.Get(p)
	default:
		p.Fail(api.ErrKind)
	}
	return r
}

// small takes a number that has room in a byte.
func small(p *pack.Reader) uint8 {
	return uint8(p.Num(math.MaxUint8))
}
