package rules

import (
	"reflect"
	"slices"
	"strconv"
	"testing"

	"catenary/api"
	"catenary/choose"
	"catenary/msg"
	"catenary/vote"
)

// reportBallot is the one that the reports are for.
var reportBallot = api.Ballot{View: 3, Turn: 1}

// quorumVotes are those of a quorum of 4.
func quorumVotes(kind int, b api.Ballot, slot int, body []byte) []api.Vote {
	var out []api.Vote
	for signer := range 3 {
		out = append(out, vote.Make(kind, b, slot, body, signer))
	}
	return out
}

// shownPrep is a right one of 4.
func shownPrep(slot int, b api.Ballot, r api.Req) api.Prep {
	return api.Prep{Slot: slot, Ballot: b, Req: r, Cert: quorumVotes(api.KChain, b, slot, msg.Body(r))}
}

// sealedReport is the report with its replica's signature.
func sealedReport(r api.Report) api.Report {
	return vote.Seal(api.Msg{Kind: api.KReport, Reports: []api.Report{r}}, r.Replica).Reports[0]
}

// aReport is a right one of a replica of 4.
func aReport(replica int) api.Report {
	digest := slices.Repeat([]byte{7}, 32)
	return sealedReport(api.Report{
		Ballot: reportBallot, Replica: replica, Low: 4, Digest: digest, Stable: quorumVotes(api.KCheck, api.Ballot{}, 4, digest),
		Preps: []api.Prep{
			shownPrep(5, highBallot, vote.Ask(aReq())),
			shownPrep(7, api.Ballot{View: replica}, api.Req{}),
			shownPrep(20, lowBallot, vote.Ask(api.Req{Client: 4, Stamp: 1, Op: []byte("last")})),
		},
	})
}

// reportsOfAllWays are such as Right takes all ways with, by what they are.
func reportsOfAllWays() map[string]api.Report {
	out := map[string]api.Report{"a zero report": {}, "a right report": aReport(2), "a bare report": sealedReport(api.Report{Ballot: reportBallot, Replica: 1}), "an unwritable report": aMsg().Reports[0]}
	for name, change := range map[string]func(r *api.Report){
		"an unsealed report":     func(r *api.Report) { r.Sig = nil },
		"a stranger's report":    func(r *api.Report) { r.Replica = 4 },
		"a report without votes": func(r *api.Report) { r.Stable = nil },
		"a report of no Low":     func(r *api.Report) { r.Low = 0 },
		"a report that falls":    func(r *api.Report) { slices.Reverse(r.Preps) },
		"a report of ballot 0 0": func(r *api.Report) { r.Ballot = api.Ballot{} },
		"an unasked report":      func(r *api.Report) { r.Preps[0] = shownPrep(5, lowBallot, aReq()) },
		"an unshown report":      func(r *api.Report) { r.Preps[2].Cert = someVotes() },
		"a great report":         func(r *api.Report) { r.Low = 1<<63 - 9; r.Preps[0].Slot = 1<<63 - 1 },
	} {
		r := aReport(2)
		change(&r)
		out[name] = r
		if name != "an unsealed report" {
			out[name+", sealed"] = sealedReport(r)
		}
	}
	return out
}

// reportLists are such that each call takes all ways, by what they are.
func reportLists() map[string][]api.Report {
	three := []api.Report{aReport(0), aReport(1), aReport(3)}
	out := map[string][]api.Report{
		"no reports": nil, "an empty list": {}, "a quorum": three, "too few": three[:2], "too many": append(slices.Clone(three), aReport(2)), "one twice": {three[0], three[1], three[1]},
		// One and the same memory at two places.
		"shared memory": {three[0], {Low: 1, Preps: three[0].Preps[1:]}, {Preps: append(slices.Clone(three[0].Preps), three[0].Preps...)}},
	}
	for name, r := range reportsOfAllWays() {
		out["a quorum with "+name] = []api.Report{three[0], three[1], r}
		out[name+" alone"] = []api.Report{r}
	}
	return out
}

func TestReports(t *testing.T) {
	right := 0
	for name, r := range reportsOfAllWays() {
		for _, n := range []int{-4, 0, 4, 5, 7} {
			keepsRules(t, call{"Right of " + name + " with " + strconv.Itoa(n), choose.Right, []any{r, n}})
			if choose.Right(r, n) {
				right++
			}
		}
	}
	if right != 3 {
		t.Errorf("%d reports were right", right)
	}
}

func TestReportLists(t *testing.T) {
	quorums := 0
	for name, l := range reportLists() {
		for _, n := range []int{-4, 4, 5, 7} {
			keepsRules(t, call{"All of " + name + " with " + strconv.Itoa(n), choose.All, []any{reportBallot, l, n}})
			if choose.All(reportBallot, l, n) {
				quorums++
			}
		}
		keepsRules(t, call{"All of " + name + " for another ballot", choose.All, []any{api.Ballot{}, l, 4}})
		keepsRules(t, call{"Low of " + name, choose.Low, []any{l}})
		keepsRules(t, call{"High of " + name, choose.High, []any{l}})
		keepsRules(t, call{"Picks of " + name, choose.Picks, []any{l}})
		for _, slot := range []int{-1, 0, 4, 5, 6, 7, 20, 21, 1<<63 - 1} {
			keepsRules(t, call{"Pick " + strconv.Itoa(slot) + " of " + name, choose.Pick, []any{slot, l}})
		}
	}
	if quorums != 2 {
		t.Errorf("%d lists were of a quorum", quorums)
	}
}

// choices are all that is told of reports.
func choices(l []api.Report) []reflect.Value {
	var picks []api.Req
	for slot := range 30 {
		picks = append(picks, choose.Pick(slot, l...))
	}
	return []reflect.Value{
		reflect.ValueOf(choose.All(reportBallot, l, 4)), reflect.ValueOf(choose.Low(l...)), reflect.ValueOf(choose.High(l...)),
		reflect.ValueOf(picks), reflect.ValueOf(choose.Picks(l...)),
	}
}

func TestToldPicksAreTheCallers(t *testing.T) { // what was told may be written over, and so may the reports behind it
	for name, l := range reportLists() {
		c := call{args: []any{l}}
		args := c.values()
		reports := args[0].Interface().([]api.Report)
		told, was := choices(reports), choices(reports)
		if !apart(listsWithRoom(slices.Concat(args, told, was)...)) {
			t.Errorf("%s: answers share memory", name)
		}
		writeOver(told)
		if !sameAll(args, c.values()) || !sameAll(choices(reports), was) {
			t.Errorf("%s: another answer behind a write into what was told", name)
		}
		before := choices(l)
		writeOver(args)
		if !sameAll(was, before) {
			t.Errorf("%s: what was told became another behind a write into the reports", name)
		}
	}
}

func TestChoicesHangOnArguments(t *testing.T) { // P2: whatever was asked ahead, or refused
	l := []api.Report{aReport(0), aReport(1), aReport(3)}
	was := choices(l)
	for name, other := range reportLists() {
		choices(other)
		for _, r := range other {
			choose.Right(r, 4)
		}
		if !sameAll(choices(l), was) || !choose.Right(l[0], 4) {
			t.Errorf("another answer behind calls with %s", name)
		}
	}
}
