package msg

import (
	"catenary/api"
	"catenary/octet"
)

// writer gathers a message's bytes; what can't be written is given up by a panic with an Errno.
type writer struct {
	out []byte
	// many says that there are more than MaxMsg bytes: out has only the first of them.
	many bool
}

// field writes a message's field.
func (w *writer) field(m api.Msg, field rune) {
	switch field {
	case ballotField:
		w.ballot(m.Ballot)
	case slotField:
		w.number(m.Slot)
	case fromField:
		w.number(m.From)
	case toField:
		w.number(m.To)
	case indexField:
		w.number(m.Index)
	case countField:
		w.number(m.Count)
	case reqField:
		w.request(m.Req)
	case otherField:
		w.request(m.Other)
	case dataField:
		w.text(m.Data)
	case sigField:
		w.text(m.Sig)
	case certField:
		putList(w, m.Cert, w.vote)
	case votesField:
		putList(w, m.Votes, w.vote)
	case orderField:
		putList(w, m.Order, w.number)
	case picksField:
		putList(w, m.Picks, w.request)
	case reportsField:
		putList(w, m.Reports, w.report)
	}
}

// put writes bytes, as far as there is room for them.
func (w *writer) put(b []byte) {
	if w.many || len(b) > api.MaxMsg-len(w.out) {
		w.many = true
		return
	}
	w.out = append(w.out, b...)
}

func (w *writer) number(n int) {
	b, e := octet.Int(n)
	if e != api.OK {
		panic(api.ErrMsg)
	}
	w.put(b)
}

func (w *writer) text(p []byte) {
	if len(p) > api.MaxData {
		panic(api.ErrMsg)
	}
	// Lists within lists may hold one text very often: it isn't copied where nothing is written any more.
	if !w.many {
		w.put(octet.Bytes(p))
	}
}

func (w *writer) ballot(b api.Ballot) {
	w.number(b.View)
	w.number(b.Turn)
}

func (w *writer) request(r api.Req) {
	w.number(r.Client)
	w.number(r.Stamp)
	w.text(r.Op)
	w.text(r.Sig)
}

func (w *writer) vote(v api.Vote) {
	w.number(v.Signer)
	w.text(v.Sig)
}

func (w *writer) prep(p api.Prep) {
	w.number(p.Slot)
	w.ballot(p.Ballot)
	w.request(p.Req)
	putList(w, p.Cert, w.vote)
}

func (w *writer) report(r api.Report) {
	w.ballot(r.Ballot)
	w.number(r.Replica)
	w.number(r.Low)
	w.text(r.Digest)
	putList(w, r.Stable, w.vote)
	putList(w, r.Preps, w.prep)
	w.text(r.Sig)
}

// putList writes a list, each of its items by put.
func putList[T any](w *writer, items []T, put func(T)) {
	if len(items) > api.MaxList {
		panic(api.ErrMsg)
	}
	w.number(len(items))
	for _, item := range items {
		put(item)
	}
}
