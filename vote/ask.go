package vote

import (
	"catenary/api"
	"catenary/clone"
	"catenary/key"
)

const requestDomain = "request"

// AskText: what a request signs.
func AskText(r api.Req) []byte {
	return key.Text(key.Client(r.Client), requestDomain, askParts(r)...)
}

// Ask: the request with its signature.
func Ask(r api.Req) api.Req {
	r.Sig = key.Sign(key.Client(r.Client), requestDomain, askParts(r)...)
	return clone.Req(r)
}

// Asked: is it a client's request?
func Asked(r api.Req) bool {
	return mayAsk(r) && key.Verify(key.Client(r.Client), r.Sig, requestDomain, askParts(r)...)
}

// mayAsk: are all fields but Sig within their limits? More clients have keys than there may be.
func mayAsk(r api.Req) bool {
	return 1 <= r.Client && r.Client <= api.MaxClients &&
		1 <= r.Stamp && r.Stamp <= api.MaxInt &&
		1 <= len(r.Op) && len(r.Op) <= api.MaxOp
}

// askParts: the texts that a request signs in its domain.
func askParts(r api.Req) [][]byte {
	return [][]byte{nums(r.Client, r.Stamp), r.Op}
}
