package msg

import (
	"catenary/api"
	"catenary/octet"
)

// reader goes through a message's bytes; what isn't there is given up by a panic with an Errno.
type reader struct {
	b  []byte
	at int
}

// field reads a field into the message.
func (r *reader) field(m *api.Msg, field rune) {
	switch field {
	case ballotField:
		m.Ballot = r.ballot()
	case slotField:
		m.Slot = r.number()
	case fromField:
		m.From = r.number()
	case toField:
		m.To = r.number()
	case indexField:
		m.Index = r.number()
	case countField:
		m.Count = r.number()
	case reqField:
		m.Req = r.request()
	case otherField:
		m.Other = r.request()
	case dataField:
		m.Data = r.text()
	case sigField:
		m.Sig = r.text()
	case certField:
		m.Cert = getList(r, r.vote)
	case votesField:
		m.Votes = getList(r, r.vote)
	case orderField:
		m.Order = getList(r, r.number)
	case picksField:
		m.Picks = getList(r, r.request)
	case reportsField:
		m.Reports = getList(r, r.report)
	}
}

// end gives the message up, if there are more bytes than its own.
func (r *reader) end() {
	if r.at != len(r.b) {
		panic(api.ErrMsg)
	}
}

func (r *reader) number() int {
	n, next, e := octet.GetInt(r.b, r.at)
	if e != api.OK {
		panic(api.ErrMsg)
	}
	r.at = next
	return n
}

func (r *reader) text() []byte {
	p, next, e := octet.GetBytes(r.b, r.at, api.MaxData)
	if e != api.OK {
		panic(api.ErrMsg)
	}
	r.at = next
	return p
}

func (r *reader) ballot() api.Ballot {
	var b api.Ballot
	b.View = r.number()
	b.Turn = r.number()
	return b
}

func (r *reader) request() api.Req {
	var q api.Req
	q.Client = r.number()
	q.Stamp = r.number()
	q.Op = r.text()
	q.Sig = r.text()
	return q
}

func (r *reader) vote() api.Vote {
	var v api.Vote
	v.Signer = r.number()
	v.Sig = r.text()
	return v
}

func (r *reader) prep() api.Prep {
	var p api.Prep
	p.Slot = r.number()
	p.Ballot = r.ballot()
	p.Req = r.request()
	p.Cert = getList(r, r.vote)
	return p
}

func (r *reader) report() api.Report {
	var p api.Report
	p.Ballot = r.ballot()
	p.Replica = r.number()
	p.Low = r.number()
	p.Digest = r.text()
	p.Stable = getList(r, r.vote)
	p.Preps = getList(r, r.prep)
	p.Sig = r.text()
	return p
}

// getList reads a list, each of its items by get.
func getList[T any](r *reader, get func() T) []T {
	n := r.number()
	if n > api.MaxList {
		panic(api.ErrMsg)
	}
	var items []T
	for range n {
		items = append(items, get())
	}
	return items
}
