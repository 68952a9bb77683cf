/- The walks over package msg: Encode. -/
import Derived.Test.YtgjepofinpmcpaaGreatDoorMAI
import Derived.Test.YtgjepofinpmcpaaGreatDoorMAG
import Derived.Test.YtgjepofinpmcpaaGreatDoorMAH
import Derived.Defers
import Derived.Recover
import Derived.Laws.Pointers
import Derived.Deep.Cut
set_option linter.unusedVariables false
namespace Go.Proofs.YtgjepofinpmcpaaGreatDoor
section
open Go.RowKit Oct
set_option maxHeartbeats 1000000 in
theorem wfield_0 (w0 w : World) (b : Nat) (done : List Int) (m : PMsg) (s : SV) (hW : WS w0 w b done) (hs : SOk Any w0 m s) :
    Calls Tryz.prog 58 #[.pointer (some ⟨b, 0, none⟩), .agg (mc m s).toArray, .int .i32 66] w (zAe zI1 w0 w b done m.bal) := by
  have hr0 := Row.new w 40 (mc m s)
  have hW0 := hW.below (zA0 w (.cells (mc m s).toArray 40))
  have hu0 : UFr b w (w.alloc (.cells (mc m s).toArray 40)) := UFr.below (zA0 w _)
  have hK := zFg w0 _ b done [.int .i64 m.bal.1, .int .i64 m.bal.2] m.bal hW0 rfl
  go_enter Tryz.func58, Tryz.ntmps58
  go_wp2_with (refine zC4 rfl _ _ rfl w.heap.size 1 rfl _ _ hr0 [.int .i64 m.bal.1, .int .i64 m.bal.2] rfl _ Tryz.underlying32 rfl (by kernel_rfl) ?_)
  refine hK.mono ?_
  rintro e w1 ⟨hu1, hb1, ⟨ho1, rfl⟩ | ⟨ho1, rfl, hW1⟩⟩
  · go_wp2_with fail
    exact ⟨rfl, zAe.no (hu0.trans hu1) hb1 ho1⟩
  go_wp2_with fail
  go_end0
  exact zAe.yes (hu0.trans hu1) ho1 hW1
set_option maxHeartbeats 1000000 in
theorem wfield_1 (w0 w : World) (b : Nat) (done : List Int) (m : PMsg) (s : SV) (hW : WS w0 w b done) (hs : SOk Any w0 m s) :
    Calls Tryz.prog 58 #[.pointer (some ⟨b, 0, none⟩), .agg (mc m s).toArray, .int .i32 83] w (zAe cN w0 w b done m.slot) := by
  have hr0 := Row.new w 40 (mc m s)
  have hW0 := hW.below (zA0 w (.cells (mc m s).toArray 40))
  have hu0 : UFr b w (w.alloc (.cells (mc m s).toArray 40)) := UFr.below (zA0 w _)
  have c0 := hr0.cell (j := 3) rfl
  have hK := zAv w0 _ b done m.slot hW0
  go_enter Tryz.func58, Tryz.ntmps58
  go_wp2_with fail
  refine hK.mono ?_
  rintro e w1 ⟨hu1, hb1, ⟨ho1, rfl⟩ | ⟨ho1, rfl, hW1⟩⟩
  · go_wp2_with fail
    exact ⟨rfl, zAe.no (hu0.trans hu1) hb1 ho1⟩
  go_wp2_with fail
  go_end0
  exact zAe.yes (hu0.trans hu1) ho1 hW1
set_option maxHeartbeats 1000000 in
theorem wfield_2 (w0 w : World) (b : Nat) (done : List Int) (m : PMsg) (s : SV) (hW : WS w0 w b done) (hs : SOk Any w0 m s) :
    Calls Tryz.prog 58 #[.pointer (some ⟨b, 0, none⟩), .agg (mc m s).toArray, .int .i32 70] w (zAe cN w0 w b done m.frm) := by
  have hr0 := Row.new w 40 (mc m s)
  have hW0 := hW.below (zA0 w (.cells (mc m s).toArray 40))
  have hu0 : UFr b w (w.alloc (.cells (mc m s).toArray 40)) := UFr.below (zA0 w _)
  have c0 := hr0.cell (j := 4) rfl
  have hK := zAv w0 _ b done m.frm hW0
  go_enter Tryz.func58, Tryz.ntmps58
  go_wp2_with fail
  refine hK.mono ?_
  rintro e w1 ⟨hu1, hb1, ⟨ho1, rfl⟩ | ⟨ho1, rfl, hW1⟩⟩
  · go_wp2_with fail
    exact ⟨rfl, zAe.no (hu0.trans hu1) hb1 ho1⟩
  go_wp2_with fail
  go_end0
  exact zAe.yes (hu0.trans hu1) ho1 hW1
set_option maxHeartbeats 1000000 in
theorem wfield_3 (w0 w : World) (b : Nat) (done : List Int) (m : PMsg) (s : SV) (hW : WS w0 w b done) (hs : SOk Any w0 m s) :
    Calls Tryz.prog 58 #[.pointer (some ⟨b, 0, none⟩), .agg (mc m s).toArray, .int .i32 84] w (zAe cN w0 w b done m.to) := by
  have hr0 := Row.new w 40 (mc m s)
  have hW0 := hW.below (zA0 w (.cells (mc m s).toArray 40))
  have hu0 : UFr b w (w.alloc (.cells (mc m s).toArray 40)) := UFr.below (zA0 w _)
  have c0 := hr0.cell (j := 5) rfl
  have hK := zAv w0 _ b done m.to hW0
  go_enter Tryz.func58, Tryz.ntmps58
  go_wp2_with fail
  refine hK.mono ?_
  rintro e w1 ⟨hu1, hb1, ⟨ho1, rfl⟩ | ⟨ho1, rfl, hW1⟩⟩
  · go_wp2_with fail
    exact ⟨rfl, zAe.no (hu0.trans hu1) hb1 ho1⟩
  go_wp2_with fail
  go_end0
  exact zAe.yes (hu0.trans hu1) ho1 hW1
set_option maxHeartbeats 1000000 in
theorem wfield_4 (w0 w : World) (b : Nat) (done : List Int) (m : PMsg) (s : SV) (hW : WS w0 w b done) (hs : SOk Any w0 m s) :
    Calls Tryz.prog 58 #[.pointer (some ⟨b, 0, none⟩), .agg (mc m s).toArray, .int .i32 73] w (zAe cN w0 w b done m.idx) := by
  have hr0 := Row.new w 40 (mc m s)
  have hW0 := hW.below (zA0 w (.cells (mc m s).toArray 40))
  have hu0 : UFr b w (w.alloc (.cells (mc m s).toArray 40)) := UFr.below (zA0 w _)
  have c0 := hr0.cell (j := 6) rfl
  have hK := zAv w0 _ b done m.idx hW0
  go_enter Tryz.func58, Tryz.ntmps58
  go_wp2_with fail
  refine hK.mono ?_
  rintro e w1 ⟨hu1, hb1, ⟨ho1, rfl⟩ | ⟨ho1, rfl, hW1⟩⟩
  · go_wp2_with fail
    exact ⟨rfl, zAe.no (hu0.trans hu1) hb1 ho1⟩
  go_wp2_with fail
  go_end0
  exact zAe.yes (hu0.trans hu1) ho1 hW1
set_option maxHeartbeats 1000000 in
theorem wfield_5 (w0 w : World) (b : Nat) (done : List Int) (m : PMsg) (s : SV) (hW : WS w0 w b done) (hs : SOk Any w0 m s) :
    Calls Tryz.prog 58 #[.pointer (some ⟨b, 0, none⟩), .agg (mc m s).toArray, .int .i32 67] w (zAe cN w0 w b done m.cnt) := by
  have hr0 := Row.new w 40 (mc m s)
  have hW0 := hW.below (zA0 w (.cells (mc m s).toArray 40))
  have hu0 : UFr b w (w.alloc (.cells (mc m s).toArray 40)) := UFr.below (zA0 w _)
  have c0 := hr0.cell (j := 7) rfl
  have hK := zAv w0 _ b done m.cnt hW0
  go_enter Tryz.func58, Tryz.ntmps58
  go_wp2_with fail
  refine hK.mono ?_
  rintro e w1 ⟨hu1, hb1, ⟨ho1, rfl⟩ | ⟨ho1, rfl, hW1⟩⟩
  · go_wp2_with fail
    exact ⟨rfl, zAe.no (hu0.trans hu1) hb1 ho1⟩
  go_wp2_with fail
  go_end0
  exact zAe.yes (hu0.trans hu1) ho1 hW1
set_option maxHeartbeats 1000000 in
theorem wfield_6 (w0 w : World) (b : Nat) (done : List Int) (m : PMsg) (s : SV) (hW : WS w0 w b done) (hs : SOk Any w0 m s) :
    Calls Tryz.prog 58 #[.pointer (some ⟨b, 0, none⟩), .agg (mc m s).toArray, .int .i32 82] w (zAe zBc w0 w b done m.req) := by
  have hr0 := Row.new w 40 (mc m s)
  have hW0 := hW.below (zA0 w (.cells (mc m s).toArray 40))
  have hu0 : UFr b w (w.alloc (.cells (mc m s).toArray 40)) := UFr.below (zA0 w _)
  have hK := zD6 w0 _ b done [.int .i64 m.req.1, .int .i64 m.req.2.1, s.o, s.g] m.req hW0 ⟨_, _, rfl, hs.o, hs.g⟩
  go_enter Tryz.func58, Tryz.ntmps58
  go_wp2_with (refine zC4 rfl _ _ rfl w.heap.size 8 rfl _ _ hr0 [.int .i64 m.req.1, .int .i64 m.req.2.1, s.o, s.g] rfl _ Tryz.underlying34 rfl (by kernel_rfl) ?_)
  refine hK.mono ?_
  rintro e w1 ⟨hu1, hb1, ⟨ho1, rfl⟩ | ⟨ho1, rfl, hW1⟩⟩
  · go_wp2_with fail
    exact ⟨rfl, zAe.no (hu0.trans hu1) hb1 ho1⟩
  go_wp2_with fail
  go_end0
  exact zAe.yes (hu0.trans hu1) ho1 hW1
set_option maxHeartbeats 1000000 in
theorem wfield_7 (w0 w : World) (b : Nat) (done : List Int) (m : PMsg) (s : SV) (hW : WS w0 w b done) (hs : SOk Any w0 m s) :
    Calls Tryz.prog 58 #[.pointer (some ⟨b, 0, none⟩), .agg (mc m s).toArray, .int .i32 79] w (zAe zBc w0 w b done m.oth) := by
  have hr0 := Row.new w 40 (mc m s)
  have hW0 := hW.below (zA0 w (.cells (mc m s).toArray 40))
  have hu0 : UFr b w (w.alloc (.cells (mc m s).toArray 40)) := UFr.below (zA0 w _)
  have hK := zD6 w0 _ b done [.int .i64 m.oth.1, .int .i64 m.oth.2.1, s.o', s.g'] m.oth hW0 ⟨_, _, rfl, hs.o', hs.g'⟩
  go_enter Tryz.func58, Tryz.ntmps58
  go_wp2_with (refine zC4 rfl _ _ rfl w.heap.size 12 rfl _ _ hr0 [.int .i64 m.oth.1, .int .i64 m.oth.2.1, s.o', s.g'] rfl _ Tryz.underlying34 rfl (by kernel_rfl) ?_)
  refine hK.mono ?_
  rintro e w1 ⟨hu1, hb1, ⟨ho1, rfl⟩ | ⟨ho1, rfl, hW1⟩⟩
  · go_wp2_with fail
    exact ⟨rfl, zAe.no (hu0.trans hu1) hb1 ho1⟩
  go_wp2_with fail
  go_end0
  exact zAe.yes (hu0.trans hu1) ho1 hW1
set_option maxHeartbeats 1000000 in
theorem wfield_8 (w0 w : World) (b : Nat) (done : List Int) (m : PMsg) (s : SV) (hW : WS w0 w b done) (hs : SOk Any w0 m s) :
    Calls Tryz.prog 58 #[.pointer (some ⟨b, 0, none⟩), .agg (mc m s).toArray, .int .i32 68] w (zAe cT w0 w b done m.data) := by
  have hr0 := Row.new w 40 (mc m s)
  have hW0 := hW.below (zA0 w (.cells (mc m s).toArray 40))
  have hu0 : UFr b w (w.alloc (.cells (mc m s).toArray 40)) := UFr.below (zA0 w _)
  have c0 := hr0.cell (j := 16) rfl
  have hK := zD1 w0 _ b done _ m.data hW0 hs.d
  go_enter Tryz.func58, Tryz.ntmps58
  go_wp2_with fail
  refine hK.mono ?_
  rintro e w1 ⟨hu1, hb1, ⟨ho1, rfl⟩ | ⟨ho1, rfl, hW1⟩⟩
  · go_wp2_with fail
    exact ⟨rfl, zAe.no (hu0.trans hu1) hb1 ho1⟩
  go_wp2_with fail
  go_end0
  exact zAe.yes (hu0.trans hu1) ho1 hW1
set_option maxHeartbeats 1000000 in
theorem wfield_9 (w0 w : World) (b : Nat) (done : List Int) (m : PMsg) (s : SV) (hW : WS w0 w b done) (hs : SOk Any w0 m s) :
    Calls Tryz.prog 58 #[.pointer (some ⟨b, 0, none⟩), .agg (mc m s).toArray, .int .i32 71] w (zAe cT w0 w b done m.sig) := by
  have hr0 := Row.new w 40 (mc m s)
  have hW0 := hW.below (zA0 w (.cells (mc m s).toArray 40))
  have hu0 : UFr b w (w.alloc (.cells (mc m s).toArray 40)) := UFr.below (zA0 w _)
  have c0 := hr0.cell (j := 17) rfl
  have hK := zD1 w0 _ b done _ m.sig hW0 hs.s
  go_enter Tryz.func58, Tryz.ntmps58
  go_wp2_with fail
  refine hK.mono ?_
  rintro e w1 ⟨hu1, hb1, ⟨ho1, rfl⟩ | ⟨ho1, rfl, hW1⟩⟩
  · go_wp2_with fail
    exact ⟨rfl, zAe.no (hu0.trans hu1) hb1 ho1⟩
  go_wp2_with fail
  go_end0
  exact zAe.yes (hu0.trans hu1) ho1 hW1
set_option maxHeartbeats 1000000 in
theorem zUi (w0 w : World) (b : Nat) (done : List Int) (m : PMsg) (s : SV) (hW : WS w0 w b done) (hs : SOk Any w0 m s) :
    Calls Tryz.prog 58 #[.pointer (some ⟨b, 0, none⟩), .agg (mc m s).toArray, .int .i32 69] w (zAe (cL zAi) w0 w b done m.cert) := by
  have hr0 := Row.new w 40 (mc m s)
  have hW0 := hW.below (zA0 w (.cells (mc m s).toArray 40))
  have hu0 : UFr b w (w.alloc (.cells (mc m s).toArray 40)) := UFr.below (zA0 w _)
  have c0 := hr0.cell (j := 18) rfl
  have hK := zEz w0 _ b done _ m.cert hW0 hs.c
  go_enter Tryz.func58, Tryz.ntmps58
  go_wp2_with fail
  refine hK.mono ?_
  rintro e w1 ⟨hu1, hb1, ⟨ho1, rfl⟩ | ⟨ho1, rfl, hW1⟩⟩
  · go_wp2_with fail
    exact ⟨rfl, zAe.no (hu0.trans hu1) hb1 ho1⟩
  go_wp2_with fail
  go_end0
  exact zAe.yes (hu0.trans hu1) ho1 hW1
set_option maxHeartbeats 1000000 in
theorem zTm (w0 w : World) (b : Nat) (done : List Int) (m : PMsg) (s : SV) (hW : WS w0 w b done) (hs : SOk Any w0 m s) :
    Calls Tryz.prog 58 #[.pointer (some ⟨b, 0, none⟩), .agg (mc m s).toArray, .int .i32 86] w (zAe (cL zAi) w0 w b done m.votes) := by
  have hr0 := Row.new w 40 (mc m s)
  have hW0 := hW.below (zA0 w (.cells (mc m s).toArray 40))
  have hu0 : UFr b w (w.alloc (.cells (mc m s).toArray 40)) := UFr.below (zA0 w _)
  have c0 := hr0.cell (j := 19) rfl
  have hK := zEz w0 _ b done _ m.votes hW0 hs.v
  go_enter Tryz.func58, Tryz.ntmps58
  go_wp2_with fail
  refine hK.mono ?_
  rintro e w1 ⟨hu1, hb1, ⟨ho1, rfl⟩ | ⟨ho1, rfl, hW1⟩⟩
  · go_wp2_with fail
    exact ⟨rfl, zAe.no (hu0.trans hu1) hb1 ho1⟩
  go_wp2_with fail
  go_end0
  exact zAe.yes (hu0.trans hu1) ho1 hW1
set_option maxHeartbeats 1000000 in
theorem zTu (w0 w : World) (b : Nat) (done : List Int) (m : PMsg) (s : SV) (hW : WS w0 w b done) (hs : SOk Any w0 m s) :
    Calls Tryz.prog 58 #[.pointer (some ⟨b, 0, none⟩), .agg (mc m s).toArray, .int .i32 78] w (zAe cI w0 w b done m.order) := by
  have hr0 := Row.new w 40 (mc m s)
  have hW0 := hW.below (zA0 w (.cells (mc m s).toArray 40))
  have hu0 : UFr b w (w.alloc (.cells (mc m s).toArray 40)) := UFr.below (zA0 w _)
  have c0 := hr0.cell (j := 20) rfl
  have hK := zSg w0 _ b done _ m.order hW0 hs.n
  go_enter Tryz.func58, Tryz.ntmps58
  go_wp2_with fail
  refine hK.mono ?_
  rintro e w1 ⟨hu1, hb1, ⟨ho1, rfl⟩ | ⟨ho1, rfl, hW1⟩⟩
  · go_wp2_with fail
    exact ⟨rfl, zAe.no (hu0.trans hu1) hb1 ho1⟩
  go_wp2_with fail
  go_end0
  exact zAe.yes (hu0.trans hu1) ho1 hW1
set_option maxHeartbeats 1000000 in
theorem zSp (w0 w : World) (b : Nat) (done : List Int) (m : PMsg) (s : SV) (hW : WS w0 w b done) (hs : SOk Any w0 m s) :
    Calls Tryz.prog 58 #[.pointer (some ⟨b, 0, none⟩), .agg (mc m s).toArray, .int .i32 80] w (zAe (cL zBc) w0 w b done m.picks) := by
  have hr0 := Row.new w 40 (mc m s)
  have hW0 := hW.below (zA0 w (.cells (mc m s).toArray 40))
  have hu0 : UFr b w (w.alloc (.cells (mc m s).toArray 40)) := UFr.below (zA0 w _)
  have c0 := hr0.cell (j := 21) rfl
  have hK := zUu w0 _ b done _ m.picks hW0 hs.p
  go_enter Tryz.func58, Tryz.ntmps58
  go_wp2_with fail
  refine hK.mono ?_
  rintro e w1 ⟨hu1, hb1, ⟨ho1, rfl⟩ | ⟨ho1, rfl, hW1⟩⟩
  · go_wp2_with fail
    exact ⟨rfl, zAe.no (hu0.trans hu1) hb1 ho1⟩
  go_wp2_with fail
  go_end0
  exact zAe.yes (hu0.trans hu1) ho1 hW1
set_option maxHeartbeats 1000000 in
theorem zSh (w0 w : World) (b : Nat) (done : List Int) (m : PMsg) (s : SV) (hW : WS w0 w b done) (hs : SOk Any w0 m s) :
    Calls Tryz.prog 58 #[.pointer (some ⟨b, 0, none⟩), .agg (mc m s).toArray, .int .i32 76] w (zAe (cL zBr) w0 w b done m.reps) := by
  have hr0 := Row.new w 40 (mc m s)
  have hW0 := hW.below (zA0 w (.cells (mc m s).toArray 40))
  have hu0 : UFr b w (w.alloc (.cells (mc m s).toArray 40)) := UFr.below (zA0 w _)
  have c0 := hr0.cell (j := 22) rfl
  have hK := zUa w0 _ b done _ m.reps hW0 hs.l
  go_enter Tryz.func58, Tryz.ntmps58
  go_wp2_with fail
  refine hK.mono ?_
  rintro e w1 ⟨hu1, hb1, ⟨ho1, rfl⟩ | ⟨ho1, rfl, hW1⟩⟩
  · go_wp2_with fail
    exact ⟨rfl, zAe.no (hu0.trans hu1) hb1 ho1⟩
  go_wp2_with fail
  go_end0
  exact zAe.yes (hu0.trans hu1) ho1 hW1
theorem zQw (w0 w : World) (b : Nat) (done : List Int) (m : PMsg) (s : SV) (hW : WS w0 w b done) (hs : SOk Any w0 m s) {i : Nat} (h : i < 15) :
    Calls Tryz.prog 58 #[.pointer (some ⟨b, 0, none⟩), .agg (mc m s).toArray, .int .i32 (lt i)] w (zAe (cF i) w0 w b done (get m i)) := by
  rcases zI6 h with rfl | rfl | rfl | rfl | rfl | rfl | rfl | rfl | rfl | rfl | rfl | rfl | rfl | rfl | rfl
  · exact wfield_0 w0 w b done m s hW hs
  · exact wfield_1 w0 w b done m s hW hs
  · exact wfield_2 w0 w b done m s hW hs
  · exact wfield_3 w0 w b done m s hW hs
  · exact wfield_4 w0 w b done m s hW hs
  · exact wfield_5 w0 w b done m s hW hs
  · exact wfield_6 w0 w b done m s hW hs
  · exact wfield_7 w0 w b done m s hW hs
  · exact wfield_8 w0 w b done m s hW hs
  · exact wfield_9 w0 w b done m s hW hs
  · exact zUi w0 w b done m s hW hs
  · exact zTm w0 w b done m s hW hs
  · exact zTu w0 w b done m s hW hs
  · exact zSp w0 w b done m s hW hs
  · exact zSh w0 w b done m s hW hs
end
section
open Go.RowKit Oct
theorem zJu (n : Int) (w : World) : (Instr.typeAssert (.iface 24 (.int .i64 n)) 20 24 false).run Tryz.prog w = .ok (.int .i64 n) w := by kernel_rfl
structure Two (a b : Nat) (w w' : World) : Prop where
  os : w'.os = w.os
  tape : w'.tape = w.tape
  output : w'.output = w.output
  size : w.heap.size ≤ w'.heap.size
  block : ∀ k, k < w.heap.size → k ≠ a → k ≠ b → w'.heap[k]? = w.heap[k]?
theorem Two.of {a b : Nat} {w w1 w2 : World} (h1 : w.grownBy w1 (some a)) (h2 : w1.grownBy w2 (some b)) : Two a b w w2 :=
  ⟨h2.os.trans h1.os, h2.tape.trans h1.tape, h2.output.trans h1.output, Nat.le_trans h1.size h2.size, fun k hk ha hb =>
    (h2.block k (Nat.lt_of_lt_of_le hk h1.size) (fun e => hb (by injection e))).trans (h1.block k hk (fun e => ha (by injection e)))⟩
theorem Two.below {a b B : Nat} {w w1 w2 : World} (h : Below B w w1) (ht : Two a b w1 w2) (hB : B ≤ w.heap.size) (ha : B ≤ a) (hb : B ≤ b) : Below B w w2 :=
  h.trans ⟨ht.os, ht.tape, ht.output, ht.size, fun k hk => ht.block k (Nat.lt_of_lt_of_le hk (Nat.le_trans hB h.size)) (by omega) (by omega)⟩
theorem encCatch (pb pe : Nat) (n : Int) (vb ve : Value) (w : World) (hb : Row w pb 23 [vb]) (he : Row w pe 24 [ve]) (hne : pb ≠ pe) :
    CallsD Tryz.prog 55 #[.pointer (some ⟨pb, 0, none⟩), .pointer (some ⟨pe, 0, none⟩)] (.panicking [{ v := .iface 24 (.int .i64 n), recovered := false }]) w fun e u' w' =>
      e = .returned (.tuple #[]) ∧ u' = .panicking [{ v := .iface 24 (.int .i64 n), recovered := true }] ∧ Row w' pb 23 [.slice none 0 0] ∧ Row w' pe 24 [.int .i64 n] ∧ Two pb pe w w' := by
  refine callsD_of_wpS Tryz.func55 rfl fun c₀ cs hu => ?_
  apply wpS_seq
  apply wpS_region
  simp [wpOpsS, go_sem, recoverD, hu, Tryz.ntmps55, Exit.thenS]
  have ht : (#[Value.pointer (some ⟨pb, 0, none⟩), Value.pointer (some ⟨pe, 0, none⟩)] ++ ((Array.replicate 6 undef).setIfInBounds 1 (Value.iface 24 (Value.int .i64 n))).setIfInBounds 0 (Value.iface 24 (Value.int .i64 n)) : Array Value) =
    #[.pointer (some ⟨pb, 0, none⟩), .pointer (some ⟨pe, 0, none⟩), .iface 24 (.int .i64 n), .iface 24 (.int .i64 n), undef, undef, undef, undef] := rfl
  rw [ht]
  clear ht
  refine wpS_of_wp ?_
  have hta := zJu n
  have c0 := hb.cell (j := 0) rfl
  have z0 := hb.frozen 0
  have c1 := he.cell (j := 0) rfl
  have z1 := he.frozen 0
  go_wp2_with fail
  go_region
  have r1 := hb.set 0 (.slice none 0 0)
  have g1 := zAd w pb 0 (.slice none 0 0)
  have r2 := (he.grown g1 (fun e => hne (by injection e))).set 0 (.int .i64 n)
  have g2 := zAd (w.setCell ⟨pb, 0, none⟩ (.slice none 0 0)) pe 0 (.int .i64 n)
  exact ⟨rfl, _, rfl, _, results_none rfl _ _ _, rfl, rfl, r1.grown (zBg g2) (fun e => hne (by injection e with e; exact e.symm)), r2, Two.of g1 (zBg g2)⟩
theorem encIdle (pb pe : Nat) (w : World) :
    CallsD Tryz.prog 55 #[.pointer (some ⟨pb, 0, none⟩), .pointer (some ⟨pe, 0, none⟩)] .returning w fun e u' w' => e = .returned (.tuple #[]) ∧ u' = .returning ∧ w' = w := by
  refine callsD_of_wpS Tryz.func55 rfl fun c₀ cs hu => ?_
  apply wpS_seq
  apply wpS_region
  simp [wpOpsS, go_sem, recoverD, hu, Tryz.ntmps55, Exit.thenS]
  have ht : (#[Value.pointer (some ⟨pb, 0, none⟩), Value.pointer (some ⟨pe, 0, none⟩)] ++ ((Array.replicate 6 undef).setIfInBounds 1 Value.nilIface).setIfInBounds 0 Value.nilIface : Array Value) =
    #[.pointer (some ⟨pb, 0, none⟩), .pointer (some ⟨pe, 0, none⟩), .nilIface, .nilIface, undef, undef, undef, undef] := rfl
  rw [ht]
  clear ht
  refine wpS_of_wp ?_
  go_wp2_with fail
  cases c₀
  simp_all [bodyPostS, results, Tryz.results55]
theorem fsB_list (k : Int) : (fsB k).toList = (fl k).map lb := by
  rw [ByteArray.toList_eq]
  simp [fsB]
theorem zG7 (k : Int) : (fsB k).toList.isEmpty = (fl k).isEmpty := by
  rw [fsB_list]
  cases fl k <;> rfl
def zMl (m : PMsg) (w : World) (e : Ending) (w' : World) : Prop :=
  ∃ v, e = .returned (.tuple #[v, .int .i64 (zCr m)]) ∧ Own w' 5 v (bc (zEj m)) ∧ Byt (zEj m) ∧ Fr w.heap.size v ∧ Below w.heap.size w w'
theorem zMl.no {m : PMsg} {w w' : World} {n : Int} (hn : zCr m = n) (h0 : n ≠ 0) (hb : Below w.heap.size w w') : zMl m w (.returned (.tuple #[.slice none 0 0, .int .i64 n])) w' := by
  have e : zEj m = [] := by unfold zEj; rw [if_neg (by rw [hn]; exact h0)]
  refine ⟨_, by rw [hn], ?_, ?_, Fr.nil _, hb⟩
  · rw [e]; exact Own.nil _ _
  · rw [e]; exact Byt.nil
theorem zHu (w : World) (tmps : Array Value) (pb pe : Nat) (vb ve : Value) (hb : Row w pb 23 [vb]) (he : Row w pe 24 [ve])
    (h2 : tmps.getD 2 undef = .pointer (some ⟨pb, 0, none⟩)) (h3 : tmps.getD 3 undef = .pointer (some ⟨pe, 0, none⟩)) : (results Tryz.f28 tmps).run Tryz.prog w = .ok (.tuple #[vb, ve]) w := by
  have c0 := hb.cell (j := 0) rfl
  have c1 := he.cell (j := 0) rfl
  simp only [Array.getD_eq_getD_getElem?] at h2 h3
  simp [results, Tryz.results28, go_sem, h2, h3, c0, c1]
theorem zHa (w w1 : World) (m : PMsg) (n : Int) (pb pe : Nat) (vb ve : Value) (hb : Row w1 pb 23 [vb]) (he : Row w1 pe 24 [ve]) (hne : pb ≠ pe) (hB : Below w.heap.size w w1) (hpb : w.heap.size ≤ pb) (hpe : w.heap.size ≤ pe)
    (hE : zCr m = n) (hn : n ≠ 0) (tmps : Array Value) (h2 : tmps.getD 2 undef = .pointer (some ⟨pb, 0, none⟩)) (h3 : tmps.getD 3 undef = .pointer (some ⟨pe, 0, none⟩)) :
    bodyPostD Tryz.prog Tryz.f28 (zMl m w) (.panic [{ v := .iface 24 (.int .i64 n), recovered := false }])
      { tmps := tmps, defers := [{ target := .fn (.func 55) #[.pointer (some ⟨pb, 0, none⟩), .pointer (some ⟨pe, 0, none⟩)], args := #[] }] } w1 := by
  refine leaves_cons (f := 55) (args := #[.pointer (some ⟨pb, 0, none⟩), .pointer (some ⟨pe, 0, none⟩)]) (by simp) (by simp [go_sem]) ?_
  refine (encCatch pb pe n vb ve w1 hb he hne).mono ?_
  rintro e u' w2 ⟨rfl, rfl, hr1, hr2, two⟩
  exact ⟨_, zHu w2 tmps pb pe _ _ hr1 hr2 h2 h3, zMl.no hE hn (Two.below hB two zN hpb hpe)⟩
theorem zA4 {w : World} {b : Nat} {t : TypeId} {xs : List Value} (h : Row w b t xs) (o : Obj) : Row (w.alloc o) b t xs := h.below (zA0 w o)
set_option maxHeartbeats 2000000 in
theorem zS9 (w : World) (m : PMsg) (s : SV) (hs : SOk Any w m s) (hk : fl m.kind = []) : Calls Tryz.prog 28 #[.agg (mc m s).toArray] w (zMl m w) := by
  obtain ⟨w3, hw3⟩ : ∃ w3, w3 = (((w.alloc (.cells (mc m s).toArray 40)).alloc (.cells #[.slice none 0 0] 23)).alloc (.cells #[.int .i64 0] 24)) := ⟨_, rfl⟩
  have hm : Row w3 w.heap.size 40 (mc m s) := by rw [hw3]; exact zA4 (zA4 (Row.new w 40 (mc m s)) _) _
  have hb : Row w3 (w.heap.size + 1) 23 [.slice none 0 0] := by
    rw [hw3]
    have := zA4 (Row.new (w.alloc (.cells (mc m s).toArray 40)) 23 [.slice none 0 0]) (.cells #[.int .i64 0] 24)
    simpa using this
  have he : Row w3 (w.heap.size + 1 + 1) 24 [.int .i64 0] := by
    rw [hw3]
    have := Row.new ((w.alloc (.cells (mc m s).toArray 40)).alloc (.cells #[.slice none 0 0] 23)) 24 [.int .i64 0]
    simpa using this
  have hB3 : Below w.heap.size w w3 := by rw [hw3]; exact (((Below.refl _ w).alloc zN _).alloc (by simp) _).alloc (by simp; omega) _
  go_enter_defers Tryz.func28, Tryz.ntmps28
  go_upto_region 1 with fail
  rw [← hw3]
  clear hw3
  have c0 := hm.cell (j := 0) rfl
  have hF := zEm w3 m.kind
  have hse : (fsB m.kind).toList.isEmpty = true := by rw [zG7, hk]; rfl
  go_wp2_with (go_at_call 36; refine hF.mono ?_; rintro e w3 ⟨rfl, rfl⟩)
  exact zHa w w3 m 51 _ _ _ _ hb he (by omega) hB3 (by omega) (by omega) (by unfold zCr; rw [if_pos (by simp [zFi, hk])]) (by decide) _ rfl rfl
end
end Go.Proofs.YtgjepofinpmcpaaGreatDoor
