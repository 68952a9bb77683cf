package vote

import (
	"catenary/api"
	"catenary/clone"
	"catenary/key"
	"catenary/msg"
)

const (
	messageDomain = "message"
	reportDomain  = "report"
)

// SealText: what a message signs.
func SealText(m api.Msg, signer int) []byte {
	body, e := sealBody(m)
	if e != api.OK {
		return nil
	}
	return key.Text(key.Replica(signer), sealDomain(m), body)
}

// Seal: the message with its signature.
func Seal(m api.Msg, signer int) api.Msg {
	var sig []byte
	if body, e := sealBody(m); e == api.OK {
		sig = key.Sign(key.Replica(signer), sealDomain(m), body)
	}
	return clone.Msg(withSig(m, sig))
}

// Sealed: is it the signer's message?
func Sealed(m api.Msg, signer int) bool {
	body, e := sealBody(m)
	return e == api.OK && key.Verify(key.Replica(signer), sigOf(m), sealDomain(m), body)
}

// isReport: is it one report alone? Then the report is signed, not the message, since it goes on in messages of others.
func isReport(m api.Msg) bool {
	return m.Kind == api.KReport && len(m.Reports) == 1
}

// sealDomain: the domain in which a message is signed.
func sealDomain(m api.Msg) string {
	if isReport(m) {
		return reportDomain
	}
	return messageDomain
}

// sealBody: the text that a message signs in its domain, if it can be written.
func sealBody(m api.Msg) ([]byte, api.Errno) {
	return msg.Encode(withSig(m, nil))
}

// sigOf: the signature by which a message is sealed.
func sigOf(m api.Msg) []byte {
	if isReport(m) {
		return m.Reports[0].Sig
	}
	return m.Sig
}

// withSig: the message sealed by this signature. It shares all else with the message, so the report is changed in a list of its own.
func withSig(m api.Msg, sig []byte) api.Msg {
	if !isReport(m) {
		m.Sig = sig
		return m
	}
	report := m.Reports[0]
	report.Sig = sig
	m.Reports = []api.Report{report}
	return m
}
