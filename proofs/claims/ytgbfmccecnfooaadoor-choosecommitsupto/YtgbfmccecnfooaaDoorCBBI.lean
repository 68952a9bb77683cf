/- The walks over package msg: a field written. (Laid by mk5f.py.) -/
import Derived.Test.YtgbfmccecnfooaaDoorCBBG
import Derived.Test.YtgbfmccecnfooaaDoorCBAV
set_option linter.unusedVariables false
namespace Go.Proofs.YtgbfmccecnfooaaDoor
open Go.RowKit Oct
set_option maxHeartbeats 1000000 in
theorem wfield_0 (w0 w : World) (b : Nat) (done : List Int) (m : PMsg) (s : SV) (hW : WS w0 w b done) (hs : SOk Any w0 m s) :
    Calls Tryd.prog 69 #[.pointer (some ⟨b, 0, none⟩), .agg (mc m s).toArray, .int .i32 66] w (WPost cBal w0 w b done m.bal) := by
  have hr0 := Row.new w 61 (mc m s)
  have hW0 := hW.below (below_alloc w (.cells (mc m s).toArray 61))
  have hu0 : UFr b w (w.alloc (.cells (mc m s).toArray 61)) := UFr.below (below_alloc w _)
  have hK := wballot_any w0 _ b done [.int .i64 m.bal.1, .int .i64 m.bal.2] m.bal hW0 rfl
  go_enter Tryd.func69, Tryd.ntmps69
  go_wp2_with (refine wl_part rfl _ _ rfl w.heap.size 1 rfl _ _ hr0 [.int .i64 m.bal.1, .int .i64 m.bal.2] rfl _ Tryd.underlying23 rfl (by kernel_rfl) ?_)
  refine hK.mono ?_
  rintro e w1 ⟨hu1, hb1, ⟨ho1, rfl⟩ | ⟨ho1, rfl, hW1⟩⟩
  · go_wp2_with fail
    exact ⟨rfl, WPost.no (hu0.trans hu1) hb1 ho1⟩
  go_wp2_with fail
  go_end0
  exact WPost.yes (hu0.trans hu1) ho1 hW1
set_option maxHeartbeats 1000000 in
theorem wfield_1 (w0 w : World) (b : Nat) (done : List Int) (m : PMsg) (s : SV) (hW : WS w0 w b done) (hs : SOk Any w0 m s) :
    Calls Tryd.prog 69 #[.pointer (some ⟨b, 0, none⟩), .agg (mc m s).toArray, .int .i32 83] w (WPost cN w0 w b done m.slot) := by
  have hr0 := Row.new w 61 (mc m s)
  have hW0 := hW.below (below_alloc w (.cells (mc m s).toArray 61))
  have hu0 : UFr b w (w.alloc (.cells (mc m s).toArray 61)) := UFr.below (below_alloc w _)
  have c0 := hr0.cell (j := 3) rfl
  have hK := wnum_any w0 _ b done m.slot hW0
  go_enter Tryd.func69, Tryd.ntmps69
  go_wp2_with fail
  refine hK.mono ?_
  rintro e w1 ⟨hu1, hb1, ⟨ho1, rfl⟩ | ⟨ho1, rfl, hW1⟩⟩
  · go_wp2_with fail
    exact ⟨rfl, WPost.no (hu0.trans hu1) hb1 ho1⟩
  go_wp2_with fail
  go_end0
  exact WPost.yes (hu0.trans hu1) ho1 hW1
set_option maxHeartbeats 1000000 in
theorem wfield_2 (w0 w : World) (b : Nat) (done : List Int) (m : PMsg) (s : SV) (hW : WS w0 w b done) (hs : SOk Any w0 m s) :
    Calls Tryd.prog 69 #[.pointer (some ⟨b, 0, none⟩), .agg (mc m s).toArray, .int .i32 70] w (WPost cN w0 w b done m.frm) := by
  have hr0 := Row.new w 61 (mc m s)
  have hW0 := hW.below (below_alloc w (.cells (mc m s).toArray 61))
  have hu0 : UFr b w (w.alloc (.cells (mc m s).toArray 61)) := UFr.below (below_alloc w _)
  have c0 := hr0.cell (j := 4) rfl
  have hK := wnum_any w0 _ b done m.frm hW0
  go_enter Tryd.func69, Tryd.ntmps69
  go_wp2_with fail
  refine hK.mono ?_
  rintro e w1 ⟨hu1, hb1, ⟨ho1, rfl⟩ | ⟨ho1, rfl, hW1⟩⟩
  · go_wp2_with fail
    exact ⟨rfl, WPost.no (hu0.trans hu1) hb1 ho1⟩
  go_wp2_with fail
  go_end0
  exact WPost.yes (hu0.trans hu1) ho1 hW1
set_option maxHeartbeats 1000000 in
theorem wfield_3 (w0 w : World) (b : Nat) (done : List Int) (m : PMsg) (s : SV) (hW : WS w0 w b done) (hs : SOk Any w0 m s) :
    Calls Tryd.prog 69 #[.pointer (some ⟨b, 0, none⟩), .agg (mc m s).toArray, .int .i32 84] w (WPost cN w0 w b done m.to) := by
  have hr0 := Row.new w 61 (mc m s)
  have hW0 := hW.below (below_alloc w (.cells (mc m s).toArray 61))
  have hu0 : UFr b w (w.alloc (.cells (mc m s).toArray 61)) := UFr.below (below_alloc w _)
  have c0 := hr0.cell (j := 5) rfl
  have hK := wnum_any w0 _ b done m.to hW0
  go_enter Tryd.func69, Tryd.ntmps69
  go_wp2_with fail
  refine hK.mono ?_
  rintro e w1 ⟨hu1, hb1, ⟨ho1, rfl⟩ | ⟨ho1, rfl, hW1⟩⟩
  · go_wp2_with fail
    exact ⟨rfl, WPost.no (hu0.trans hu1) hb1 ho1⟩
  go_wp2_with fail
  go_end0
  exact WPost.yes (hu0.trans hu1) ho1 hW1
set_option maxHeartbeats 1000000 in
theorem wfield_4 (w0 w : World) (b : Nat) (done : List Int) (m : PMsg) (s : SV) (hW : WS w0 w b done) (hs : SOk Any w0 m s) :
    Calls Tryd.prog 69 #[.pointer (some ⟨b, 0, none⟩), .agg (mc m s).toArray, .int .i32 73] w (WPost cN w0 w b done m.idx) := by
  have hr0 := Row.new w 61 (mc m s)
  have hW0 := hW.below (below_alloc w (.cells (mc m s).toArray 61))
  have hu0 : UFr b w (w.alloc (.cells (mc m s).toArray 61)) := UFr.below (below_alloc w _)
  have c0 := hr0.cell (j := 6) rfl
  have hK := wnum_any w0 _ b done m.idx hW0
  go_enter Tryd.func69, Tryd.ntmps69
  go_wp2_with fail
  refine hK.mono ?_
  rintro e w1 ⟨hu1, hb1, ⟨ho1, rfl⟩ | ⟨ho1, rfl, hW1⟩⟩
  · go_wp2_with fail
    exact ⟨rfl, WPost.no (hu0.trans hu1) hb1 ho1⟩
  go_wp2_with fail
  go_end0
  exact WPost.yes (hu0.trans hu1) ho1 hW1
set_option maxHeartbeats 1000000 in
theorem wfield_5 (w0 w : World) (b : Nat) (done : List Int) (m : PMsg) (s : SV) (hW : WS w0 w b done) (hs : SOk Any w0 m s) :
    Calls Tryd.prog 69 #[.pointer (some ⟨b, 0, none⟩), .agg (mc m s).toArray, .int .i32 67] w (WPost cN w0 w b done m.cnt) := by
  have hr0 := Row.new w 61 (mc m s)
  have hW0 := hW.below (below_alloc w (.cells (mc m s).toArray 61))
  have hu0 : UFr b w (w.alloc (.cells (mc m s).toArray 61)) := UFr.below (below_alloc w _)
  have c0 := hr0.cell (j := 7) rfl
  have hK := wnum_any w0 _ b done m.cnt hW0
  go_enter Tryd.func69, Tryd.ntmps69
  go_wp2_with fail
  refine hK.mono ?_
  rintro e w1 ⟨hu1, hb1, ⟨ho1, rfl⟩ | ⟨ho1, rfl, hW1⟩⟩
  · go_wp2_with fail
    exact ⟨rfl, WPost.no (hu0.trans hu1) hb1 ho1⟩
  go_wp2_with fail
  go_end0
  exact WPost.yes (hu0.trans hu1) ho1 hW1
set_option maxHeartbeats 1000000 in
theorem wfield_6 (w0 w : World) (b : Nat) (done : List Int) (m : PMsg) (s : SV) (hW : WS w0 w b done) (hs : SOk Any w0 m s) :
    Calls Tryd.prog 69 #[.pointer (some ⟨b, 0, none⟩), .agg (mc m s).toArray, .int .i32 82] w (WPost cReq w0 w b done m.req) := by
  have hr0 := Row.new w 61 (mc m s)
  have hW0 := hW.below (below_alloc w (.cells (mc m s).toArray 61))
  have hu0 : UFr b w (w.alloc (.cells (mc m s).toArray 61)) := UFr.below (below_alloc w _)
  have hK := wrequest_any w0 _ b done [.int .i64 m.req.1, .int .i64 m.req.2.1, s.o, s.g] m.req hW0 ⟨_, _, rfl, hs.o, hs.g⟩
  go_enter Tryd.func69, Tryd.ntmps69
  go_wp2_with (refine wl_part rfl _ _ rfl w.heap.size 8 rfl _ _ hr0 [.int .i64 m.req.1, .int .i64 m.req.2.1, s.o, s.g] rfl _ Tryd.underlying36 rfl (by kernel_rfl) ?_)
  refine hK.mono ?_
  rintro e w1 ⟨hu1, hb1, ⟨ho1, rfl⟩ | ⟨ho1, rfl, hW1⟩⟩
  · go_wp2_with fail
    exact ⟨rfl, WPost.no (hu0.trans hu1) hb1 ho1⟩
  go_wp2_with fail
  go_end0
  exact WPost.yes (hu0.trans hu1) ho1 hW1
set_option maxHeartbeats 1000000 in
theorem wfield_7 (w0 w : World) (b : Nat) (done : List Int) (m : PMsg) (s : SV) (hW : WS w0 w b done) (hs : SOk Any w0 m s) :
    Calls Tryd.prog 69 #[.pointer (some ⟨b, 0, none⟩), .agg (mc m s).toArray, .int .i32 79] w (WPost cReq w0 w b done m.oth) := by
  have hr0 := Row.new w 61 (mc m s)
  have hW0 := hW.below (below_alloc w (.cells (mc m s).toArray 61))
  have hu0 : UFr b w (w.alloc (.cells (mc m s).toArray 61)) := UFr.below (below_alloc w _)
  have hK := wrequest_any w0 _ b done [.int .i64 m.oth.1, .int .i64 m.oth.2.1, s.o', s.g'] m.oth hW0 ⟨_, _, rfl, hs.o', hs.g'⟩
  go_enter Tryd.func69, Tryd.ntmps69
  go_wp2_with (refine wl_part rfl _ _ rfl w.heap.size 12 rfl _ _ hr0 [.int .i64 m.oth.1, .int .i64 m.oth.2.1, s.o', s.g'] rfl _ Tryd.underlying36 rfl (by kernel_rfl) ?_)
  refine hK.mono ?_
  rintro e w1 ⟨hu1, hb1, ⟨ho1, rfl⟩ | ⟨ho1, rfl, hW1⟩⟩
  · go_wp2_with fail
    exact ⟨rfl, WPost.no (hu0.trans hu1) hb1 ho1⟩
  go_wp2_with fail
  go_end0
  exact WPost.yes (hu0.trans hu1) ho1 hW1
set_option maxHeartbeats 1000000 in
theorem wfield_8 (w0 w : World) (b : Nat) (done : List Int) (m : PMsg) (s : SV) (hW : WS w0 w b done) (hs : SOk Any w0 m s) :
    Calls Tryd.prog 69 #[.pointer (some ⟨b, 0, none⟩), .agg (mc m s).toArray, .int .i32 68] w (WPost cT w0 w b done m.data) := by
  have hr0 := Row.new w 61 (mc m s)
  have hW0 := hW.below (below_alloc w (.cells (mc m s).toArray 61))
  have hu0 : UFr b w (w.alloc (.cells (mc m s).toArray 61)) := UFr.below (below_alloc w _)
  have c0 := hr0.cell (j := 16) rfl
  have hK := wtext_any w0 _ b done _ m.data hW0 hs.d
  go_enter Tryd.func69, Tryd.ntmps69
  go_wp2_with fail
  refine hK.mono ?_
  rintro e w1 ⟨hu1, hb1, ⟨ho1, rfl⟩ | ⟨ho1, rfl, hW1⟩⟩
  · go_wp2_with fail
    exact ⟨rfl, WPost.no (hu0.trans hu1) hb1 ho1⟩
  go_wp2_with fail
  go_end0
  exact WPost.yes (hu0.trans hu1) ho1 hW1
set_option maxHeartbeats 1000000 in
theorem wfield_9 (w0 w : World) (b : Nat) (done : List Int) (m : PMsg) (s : SV) (hW : WS w0 w b done) (hs : SOk Any w0 m s) :
    Calls Tryd.prog 69 #[.pointer (some ⟨b, 0, none⟩), .agg (mc m s).toArray, .int .i32 71] w (WPost cT w0 w b done m.sig) := by
  have hr0 := Row.new w 61 (mc m s)
  have hW0 := hW.below (below_alloc w (.cells (mc m s).toArray 61))
  have hu0 : UFr b w (w.alloc (.cells (mc m s).toArray 61)) := UFr.below (below_alloc w _)
  have c0 := hr0.cell (j := 17) rfl
  have hK := wtext_any w0 _ b done _ m.sig hW0 hs.s
  go_enter Tryd.func69, Tryd.ntmps69
  go_wp2_with fail
  refine hK.mono ?_
  rintro e w1 ⟨hu1, hb1, ⟨ho1, rfl⟩ | ⟨ho1, rfl, hW1⟩⟩
  · go_wp2_with fail
    exact ⟨rfl, WPost.no (hu0.trans hu1) hb1 ho1⟩
  go_wp2_with fail
  go_end0
  exact WPost.yes (hu0.trans hu1) ho1 hW1
set_option maxHeartbeats 1000000 in
theorem wfield_10 (w0 w : World) (b : Nat) (done : List Int) (m : PMsg) (s : SV) (hW : WS w0 w b done) (hs : SOk Any w0 m s) :
    Calls Tryd.prog 69 #[.pointer (some ⟨b, 0, none⟩), .agg (mc m s).toArray, .int .i32 69] w (WPost (cL cVote) w0 w b done m.cert) := by
  have hr0 := Row.new w 61 (mc m s)
  have hW0 := hW.below (below_alloc w (.cells (mc m s).toArray 61))
  have hu0 : UFr b w (w.alloc (.cells (mc m s).toArray 61)) := UFr.below (below_alloc w _)
  have c0 := hr0.cell (j := 18) rfl
  have hK := wvotes_any w0 _ b done _ m.cert hW0 hs.c
  go_enter Tryd.func69, Tryd.ntmps69
  go_wp2_with fail
  refine hK.mono ?_
  rintro e w1 ⟨hu1, hb1, ⟨ho1, rfl⟩ | ⟨ho1, rfl, hW1⟩⟩
  · go_wp2_with fail
    exact ⟨rfl, WPost.no (hu0.trans hu1) hb1 ho1⟩
  go_wp2_with fail
  go_end0
  exact WPost.yes (hu0.trans hu1) ho1 hW1
set_option maxHeartbeats 1000000 in
theorem wfield_11 (w0 w : World) (b : Nat) (done : List Int) (m : PMsg) (s : SV) (hW : WS w0 w b done) (hs : SOk Any w0 m s) :
    Calls Tryd.prog 69 #[.pointer (some ⟨b, 0, none⟩), .agg (mc m s).toArray, .int .i32 86] w (WPost (cL cVote) w0 w b done m.votes) := by
  have hr0 := Row.new w 61 (mc m s)
  have hW0 := hW.below (below_alloc w (.cells (mc m s).toArray 61))
  have hu0 : UFr b w (w.alloc (.cells (mc m s).toArray 61)) := UFr.below (below_alloc w _)
  have c0 := hr0.cell (j := 19) rfl
  have hK := wvotes_any w0 _ b done _ m.votes hW0 hs.v
  go_enter Tryd.func69, Tryd.ntmps69
  go_wp2_with fail
  refine hK.mono ?_
  rintro e w1 ⟨hu1, hb1, ⟨ho1, rfl⟩ | ⟨ho1, rfl, hW1⟩⟩
  · go_wp2_with fail
    exact ⟨rfl, WPost.no (hu0.trans hu1) hb1 ho1⟩
  go_wp2_with fail
  go_end0
  exact WPost.yes (hu0.trans hu1) ho1 hW1
set_option maxHeartbeats 1000000 in
theorem wfield_12 (w0 w : World) (b : Nat) (done : List Int) (m : PMsg) (s : SV) (hW : WS w0 w b done) (hs : SOk Any w0 m s) :
    Calls Tryd.prog 69 #[.pointer (some ⟨b, 0, none⟩), .agg (mc m s).toArray, .int .i32 78] w (WPost cI w0 w b done m.order) := by
  have hr0 := Row.new w 61 (mc m s)
  have hW0 := hW.below (below_alloc w (.cells (mc m s).toArray 61))
  have hu0 : UFr b w (w.alloc (.cells (mc m s).toArray 61)) := UFr.below (below_alloc w _)
  have c0 := hr0.cell (j := 20) rfl
  have hK := wints_any w0 _ b done _ m.order hW0 hs.n
  go_enter Tryd.func69, Tryd.ntmps69
  go_wp2_with fail
  refine hK.mono ?_
  rintro e w1 ⟨hu1, hb1, ⟨ho1, rfl⟩ | ⟨ho1, rfl, hW1⟩⟩
  · go_wp2_with fail
    exact ⟨rfl, WPost.no (hu0.trans hu1) hb1 ho1⟩
  go_wp2_with fail
  go_end0
  exact WPost.yes (hu0.trans hu1) ho1 hW1
set_option maxHeartbeats 1000000 in
theorem wfield_13 (w0 w : World) (b : Nat) (done : List Int) (m : PMsg) (s : SV) (hW : WS w0 w b done) (hs : SOk Any w0 m s) :
    Calls Tryd.prog 69 #[.pointer (some ⟨b, 0, none⟩), .agg (mc m s).toArray, .int .i32 80] w (WPost (cL cReq) w0 w b done m.picks) := by
  have hr0 := Row.new w 61 (mc m s)
  have hW0 := hW.below (below_alloc w (.cells (mc m s).toArray 61))
  have hu0 : UFr b w (w.alloc (.cells (mc m s).toArray 61)) := UFr.below (below_alloc w _)
  have c0 := hr0.cell (j := 21) rfl
  have hK := wreqs_any w0 _ b done _ m.picks hW0 hs.p
  go_enter Tryd.func69, Tryd.ntmps69
  go_wp2_with fail
  refine hK.mono ?_
  rintro e w1 ⟨hu1, hb1, ⟨ho1, rfl⟩ | ⟨ho1, rfl, hW1⟩⟩
  · go_wp2_with fail
    exact ⟨rfl, WPost.no (hu0.trans hu1) hb1 ho1⟩
  go_wp2_with fail
  go_end0
  exact WPost.yes (hu0.trans hu1) ho1 hW1
set_option maxHeartbeats 1000000 in
theorem wfield_14 (w0 w : World) (b : Nat) (done : List Int) (m : PMsg) (s : SV) (hW : WS w0 w b done) (hs : SOk Any w0 m s) :
    Calls Tryd.prog 69 #[.pointer (some ⟨b, 0, none⟩), .agg (mc m s).toArray, .int .i32 76] w (WPost (cL cRep) w0 w b done m.reps) := by
  have hr0 := Row.new w 61 (mc m s)
  have hW0 := hW.below (below_alloc w (.cells (mc m s).toArray 61))
  have hu0 : UFr b w (w.alloc (.cells (mc m s).toArray 61)) := UFr.below (below_alloc w _)
  have c0 := hr0.cell (j := 22) rfl
  have hK := wreps_any w0 _ b done _ m.reps hW0 hs.l
  go_enter Tryd.func69, Tryd.ntmps69
  go_wp2_with fail
  refine hK.mono ?_
  rintro e w1 ⟨hu1, hb1, ⟨ho1, rfl⟩ | ⟨ho1, rfl, hW1⟩⟩
  · go_wp2_with fail
    exact ⟨rfl, WPost.no (hu0.trans hu1) hb1 ho1⟩
  go_wp2_with fail
  go_end0
  exact WPost.yes (hu0.trans hu1) ho1 hW1
/-- field. -/
theorem wfield_any (w0 w : World) (b : Nat) (done : List Int) (m : PMsg) (s : SV) (hW : WS w0 w b done) (hs : SOk Any w0 m s) {i : Nat} (h : i < 15) :
    Calls Tryd.prog 69 #[.pointer (some ⟨b, 0, none⟩), .agg (mc m s).toArray, .int .i32 (lt i)] w (WPost (cF i) w0 w b done (get m i)) := by
  rcases lt15 h with rfl | rfl | rfl | rfl | rfl | rfl | rfl | rfl | rfl | rfl | rfl | rfl | rfl | rfl | rfl
  · exact wfield_0 w0 w b done m s hW hs
  · exact wfield_1 w0 w b done m s hW hs
  · exact wfield_2 w0 w b done m s hW hs
  · exact wfield_3 w0 w b done m s hW hs
  · exact wfield_4 w0 w b done m s hW hs
  · exact wfield_5 w0 w b done m s hW hs
  · exact wfield_6 w0 w b done m s hW hs
  · exact wfield_7 w0 w b done m s hW hs
  · exact wfield_8 w0 w b done m s hW hs
  · exact wfield_9 w0 w b done m s hW hs
  · exact wfield_10 w0 w b done m s hW hs
  · exact wfield_11 w0 w b done m s hW hs
  · exact wfield_12 w0 w b done m s hW hs
  · exact wfield_13 w0 w b done m s hW hs
  · exact wfield_14 w0 w b done m s hW hs
end Go.Proofs.YtgbfmccecnfooaaDoor
