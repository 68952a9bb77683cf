package msg

import (
	"strings"

	"catenary/api"
)

// A message's fields have letters.
const (
	ballotField  = 'B'
	slotField    = 'S'
	fromField    = 'F'
	toField      = 'T'
	indexField   = 'I'
	countField   = 'C'
	reqField     = 'R'
	otherField   = 'O'
	dataField    = 'D'
	sigField     = 'G'
	certField    = 'E'
	votesField   = 'V'
	orderField   = 'N'
	picksField   = 'P'
	reportsField = 'L'
)

const (
	// allFields has the letters of all fields, in the order in which they are written.
	allFields = "BSFTICRODGEVNPL"
	// noFields is what a number that is no kind has: each kind has at least one field.
	noFields = ""
)

// fieldsOf: the letters of the fields that a kind has, in the order of allFields.
func fieldsOf(kind int) string {
	switch kind {
	case api.KRequest:
		return "R"
	case api.KChain, api.KCommit, api.KDone:
		return "BSRV"
	case api.KAck:
		return "BSREV"
	case api.KReply:
		return "FTIDG"
	case api.KSuspect:
		return "BFTG"
	case api.KTurn:
		return "BFTGE"
	case api.KReport:
		return "L"
	case api.KNew:
		return "BGNL"
	case api.KCheck:
		return "SDV"
	case api.KFetch:
		return "SF"
	case api.KState:
		return "SFICDG"
	case api.KEvidence:
		return "BSFIRODG"
	case api.KPromise:
		return "B"
	case api.KEnter:
		return "BSNP"
	case api.KVote:
		return "BSR"
	case api.KPrep:
		return "BSRE"
	case api.KSave:
		return "SDE"
	}
	return noFields
}

// hasOther: has the message something in a field that isn't one of these?
func hasOther(m api.Msg, fields string) bool {
	for _, field := range allFields {
		if !strings.ContainsRune(fields, field) && !isZero(m, field) {
			return true
		}
	}
	return false
}

// isZero: is there nothing in a message's field?
func isZero(m api.Msg, field rune) bool {
	switch field {
	case ballotField:
		return m.Ballot == api.Ballot{}
	case slotField:
		return m.Slot == 0
	case fromField:
		return m.From == 0
	case toField:
		return m.To == 0
	case indexField:
		return m.Index == 0
	case countField:
		return m.Count == 0
	case reqField:
		return isNoRequest(m.Req)
	case otherField:
		return isNoRequest(m.Other)
	case dataField:
		return len(m.Data) == 0
	case sigField:
		return len(m.Sig) == 0
	case certField:
		return len(m.Cert) == 0
	case votesField:
		return len(m.Votes) == 0
	case orderField:
		return len(m.Order) == 0
	case picksField:
		return len(m.Picks) == 0
	}
	return len(m.Reports) == 0
}

// isNoRequest: is it the zero request?
func isNoRequest(r api.Req) bool {
	return r.Client == 0 && r.Stamp == 0 && len(r.Op) == 0 && len(r.Sig) == 0
}
