// Package clone makes copies that share no memory with what they are of. All layers owe them: what is handed in is not kept, and an answer is new memory.
package clone

import (
	"bytes"
	"slices"

	"catenary/api"
)

// Req: a request's copy.
func Req(r api.Req) api.Req {
	r.Op = bytes.Clone(r.Op)
	r.Sig = bytes.Clone(r.Sig)
	return r
}

// Reqs: a copy of requests.
func Reqs(requests []api.Req) []api.Req {
	return list(requests, Req)
}

// Vote: a vote's copy.
func Vote(v api.Vote) api.Vote {
	v.Sig = bytes.Clone(v.Sig)
	return v
}

// Votes: a copy of votes.
func Votes(votes []api.Vote) []api.Vote {
	return list(votes, Vote)
}

// Prep: a copy of what was prepared.
func Prep(p api.Prep) api.Prep {
	p.Req = Req(p.Req)
	p.Cert = Votes(p.Cert)
	return p
}

// Report: a report's copy.
func Report(r api.Report) api.Report {
	r.Digest = bytes.Clone(r.Digest)
	r.Stable = Votes(r.Stable)
	r.Preps = list(r.Preps, Prep)
	r.Sig = bytes.Clone(r.Sig)
	return r
}

// Msg: a message's copy.
func Msg(m api.Msg) api.Msg {
	m.Req = Req(m.Req)
	m.Other = Req(m.Other)
	m.Data = bytes.Clone(m.Data)
	m.Sig = bytes.Clone(m.Sig)
	m.Cert = Votes(m.Cert)
	m.Votes = Votes(m.Votes)
	m.Order = slices.Clone(m.Order)
	m.Picks = Reqs(m.Picks)
	m.Reports = list(m.Reports, Report)
	return m
}

// Entry: an entry's copy.
func Entry(e api.Entry) api.Entry {
	e.Name = bytes.Clone(e.Name)
	e.Value = bytes.Clone(e.Value)
	return e
}

// Entries: a copy of entries.
func Entries(entries []api.Entry) []api.Entry {
	return list(entries, Entry)
}

// Lease: a lease's copy.
func Lease(l api.Lease) api.Lease {
	l.Name = bytes.Clone(l.Name)
	return l
}

// Leases: a copy of leases.
func Leases(leases []api.Lease) []api.Lease {
	return list(leases, Lease)
}

// Result: a copy of what came of an operation.
func Result(r api.Result) api.Result {
	r.Value = bytes.Clone(r.Value)
	return r
}

// Session: a session's copy.
func Session(s api.Session) api.Session {
	s.Result = Result(s.Result)
	return s
}

// App: a copy of the service's state.
func App(a api.App) api.App {
	a.Entries = Entries(a.Entries)
	a.Leases = Leases(a.Leases)
	a.Sessions = list(a.Sessions, Session)
	return a
}

// Packet: a packet's copy.
func Packet(p api.Packet) api.Packet {
	p.Bytes = bytes.Clone(p.Bytes)
	return p
}

// Slot: a copy of what is known of a slot.
func Slot(s api.Slot) api.Slot {
	s.Vote = Req(s.Vote)
	s.Prep = Req(s.Prep)
	s.Cert = Votes(s.Cert)
	s.Done = Req(s.Done)
	s.Votes = Votes(s.Votes)
	return s
}

// list: a copy of a list, of each item by one's copy.
func list[T any](items []T, one func(T) T) []T {
	out := slices.Clone(items)
	for i, item := range out {
		out[i] = one(item)
	}
	return out
}
