package octet

import (
	"errors"
	"testing"

	"catenary/api"
)

// The section Errors: the numbers, their type, and how an error is written.
func TestErrors(t *testing.T) {
	for _, c := range []struct {
		e    api.Errno
		n    int
		text string
	}{
		{api.OK, 0, "error 0"},
		{api.ErrOctet, 11, "error 11"},
		{api.ErrOctetRange, 14, "error 14"},
		{api.ErrBallot, 41, "error 41"},
		{api.ErrMsg, 51, "error 51"},
		{api.ErrMsgMany, 53, "error 53"},
		{api.ErrOp, 71, "error 71"},
		{api.ErrSnap, 101, "error 101"},
		{api.ErrDiskFull, 113, "error 113"},
		{api.ErrDead, 115, "error 115"},
		{api.ErrBag, 132, "error 132"},
		{api.ErrBagMany, 133, "error 133"},
		{api.ErrProof, 161, "error 161"},
		{api.ErrWindow, 171, "error 171"},
		{api.ErrChain, 211, "error 211"},
		{api.ErrClient, 241, "error 241"},
		{api.ErrBusy, 245, "error 245"},
		{api.ErrCluster, 261, "error 261"},
	} {
		if int(c.e) != c.n || c.e.Error() != c.text {
			t.Errorf("error %d is %d and reads %q", c.n, int(c.e), c.e.Error())
		}
		if !errors.Is(error(c.e), c.e) {
			t.Errorf("error %d isn't itself as an error value", c.n)
		}
	}
}

func TestLimits(t *testing.T) {
	for _, c := range []struct {
		name      string
		got, want int
	}{
		{"MaxInt", api.MaxInt, 2147483647},
		{"MaxKey", api.MaxKey, 127},
		{"MaxF", api.MaxF, 5},
		{"MaxView", api.MaxView, 1000000},
		{"MaxMsg", api.MaxMsg, 1048576},
		{"MaxData", api.MaxData, 65536},
		{"MaxList", api.MaxList, 64},
		{"MaxOp", api.MaxOp, 256},
		{"MaxClients", api.MaxClients, 4},
		{"MaxName", api.MaxName, 16},
		{"MaxValue", api.MaxValue, 64},
		{"MaxTerm", api.MaxTerm, 1000},
		{"MaxEntries", api.MaxEntries, 64},
		{"MaxLeases", api.MaxLeases, 16},
		{"MaxPiece", api.MaxPiece, 256},
		{"MaxSlot", api.MaxSlot, 1000000},
		{"MaxPieces", api.MaxPieces, 64},
		{"MaxDisk", api.MaxDisk, 4194304},
		{"MaxBag", api.MaxBag, 4096},
		{"MaxBackoff", api.MaxBackoff, 8},
		{"MaxSeen", api.MaxSeen, 8192},
		{"Window", api.Window, 16},
		{"Period", api.Period, 4},
		{"MaxTally", api.MaxTally, 64},
		{"MaxProofs", api.MaxProofs, 64},
		{"Retry", api.Retry, 8},
	} {
		if c.got != c.want {
			t.Errorf("%s is %d; want %d", c.name, c.got, c.want)
		}
	}
}
