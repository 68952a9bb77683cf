/- Disks in memory: what each method does. -/
import Derived.Test.YteafgdidjdfiiaaGreatJ13
import Derived.Test.YteafgdidjdfiiaaGreatLst
import Derived.Test.YteafgdidjdfiiaaGreatCl
section
set_option linter.unusedVariables false
namespace Go.Proofs.YteafgdidjdfiiaaGreat
open Go.RowKit Oct

set_option maxHeartbeats 800000 in
theorem scan_any (w : World) (v : Value) (l : List Int) (hv : Rd w v l) (hl : l.length ≤ 100000000) :
    Calls Tryz.prog 22 #[v] w fun e w' => ∃ v' us, e = .returned (.tuple #[v', .int .i64 ((scn l).2 : Int)]) ∧ Own w' 28 v' us ∧ Els w' us (scn l).1 ∧ Fr w.heap.size v' ∧ Below w.heap.size w w' ∧ ∀ c ∈ us, Fr w.heap.size c := by
  obtain ⟨ao, cap, rfl, hc⟩ := hv.form
  obtain ⟨er, her⟩ : ∃ er, er = (scn l).2 := ⟨_, rfl⟩
  obtain ⟨ou, hou⟩ : ∃ ou, ou = (scn l).1 := ⟨_, rfl⟩
  rw [← her, ← hou]
  have HS := (show Hid (scn l = (ou, er)) by show _ = _; rw [her, hou])
  have HV := (show Hid (Rd w (.slice ao l.length cap) l) from hv)
  clear her hou hv
  go_enter Tryz.func22, Tryz.ntmps22
  go_wp2_with fail
  go_loopw [4, 5] (fun o i wr => ∃ (p : Nat) (done : List (List Int)) (us : List Value), p ≤ l.length ∧ i = .int .i64 p ∧ tot done ≤ p ∧ Own wr 28 o us ∧ Els wr us done ∧ Fr w.heap.size o ∧ Below w.heap.size w wr ∧ Hid (SWay l p done) ∧ Hid (∀ c ∈ us, Fr w.heap.size c)) (fun _ i _ => l.length - (intOf i).toNat)
  case atStart => exact ⟨0, [], [], Nat.zero_le _, rfl, Nat.le_refl _, Own.nil _ _, trivial, Fr.nil _, Below.refl _ _, SWay.start l, (show Hid (∀ c ∈ ([] : List Value), Fr w.heap.size c) from fun c hc => by cases hc)⟩
  case round =>
    obtain ⟨p, done, us, hp, rfl, htd, hown, hels, hfr, hbel, hway, hall⟩ := hrel
    by_cases hpl : p < l.length
    · have hrd := HV.out.below hbel
      have hG := getBytes_any wr _ l (p : Int) 2147483647 hrd (by omega)
      rcases getB_cases l p hrd.1 with hg | ⟨t, s, hg, _, hs, hps⟩
      · have hu := hway.out.no hpl hg
        rw [HS.out, Prod.mk.injEq] at hu
        obtain ⟨rfl, rfl⟩ := hu
        rw [hg] at hG
        have HG := (show Hid (∀ _ : Unit, _) from fun _ => hG)
        clear hG hg HS HV hrd hway
        go_wp2_with (go_at_call 55; refine (HG.out ()).mono ?_; rintro e w1 ⟨o1, rfl, hown1, hfr1, hb1⟩)
        go_ret2
        exact ⟨_, us, rfl, hown.below hb1, hels.below hb1, hfr, below_and hbel (Nat.le_refl _) hb1, hall.out⟩
      · have hway' := (show Hid (SWay l s (done ++ [t])) from hway.out.go hpl hg (by omega))
        rw [hg] at hG
        have HG := (show Hid (∀ _ : Unit, _) from fun _ => hG)
        have hul := Nat.le_of_eq hels.len
        have hdl := len_tot done
        have htt : tot (done ++ [t]) ≤ s := by rw [tot_app]; simp only [tot]; omega
        have hsz := hbel.size
        clear hG hg hrd hway
        go_wp2_with (first | (go_at_call 55; refine (HG.out ()).mono ?_; rintro e w1 ⟨o1, rfl, hown1, hfr1, hb1⟩; have hsz1 := Nat.le_trans hsz hb1.size; obtain ⟨oa, oc, rfl, hoc⟩ := hown1.form) | (at_builtin; (refine app_list rfl _ _ rfl u4 us rfl ((hown.below hb1).below (below_alloc w1 (.cells #[.slice oa (bc t).length oc] 28))) _ [.slice oa (bc t).length oc] rfl (own_elem w1 (.slice oa (bc t).length oc) 28).rdv (fun u hu => by rw [List.mem_singleton.1 hu]; exact hown1.oneCell) (by simp only [List.length_cons, List.length_nil]; omega) ?_; intro o2 w2 happ)))
        have hE : Els w2 (us ++ [.slice oa (bc t).length oc]) (done ++ [t]) := Els.app ((hels.below hb1).snoc hown1 |>.below (below_alloc w1 (.cells #[.slice oa (bc t).length oc] 28))) ((hown.below hb1).below (below_alloc w1 (.cells #[.slice oa (bc t).length oc] 28))) happ
        have hB : Below w.heap.size w w2 := (below_and (below_and hbel (Nat.le_refl _) hb1) (Nat.le_refl _) (below_alloc w1 (.cells #[.slice oa (bc t).length oc] 28))).trans (happ.below hfr (by simp; omega))
        have hF := happ.fr hfr (by simp; omega)
        have hO := happ.own
        have hall' := (show Hid (∀ c ∈ us ++ [.slice oa (bc t).length oc], Fr w.heap.size c) from fun c hc => by
          rcases List.mem_append.1 hc with hc | hc
          · exact hall.out c hc
          · rw [List.mem_singleton.1 hc]; exact hfr1.mono hsz)
        clear happ hown1 hfr1 hb1 hsz1 hels hown
        go_wp2_with fail
        go_roundw
        case rel => exact ⟨s, _, _, hs, rfl, htt, hO, hE, hF, hB, hway', hall'⟩
        case measure => simp [intOf]; omega
    · have hu := hway.out.end (by omega)
      rw [HS.out, Prod.mk.injEq] at hu
      obtain ⟨rfl, rfl⟩ := hu
      clear HS HV hway
      go_wp2_with fail
      go_ret2
      exact ⟨_, us, rfl, hown, hels, hfr, hbel, hall.out⟩

end Go.Proofs.YteafgdidjdfiiaaGreat
end

section
namespace Go.Proofs.YteafgdidjdfiiaaGreat
open Oct

/-- A disk: its bytes, its room, is it dead, is it to break, after how many writes, how much stays. -/
structure PDk where
  l : List Int
  room : Int
  dead : Bool
  due : Bool
  wr : Int
  te : Int
structure OkD (d : PDk) : Prop where
  byt : Byt d.l
  len : d.l.length ≤ 4194304
  r0 : 0 ≤ d.room
  r1 : d.room ≤ 4194304
  w0 : 0 ≤ d.wr
  w1 : d.wr ≤ 9223372036854775807
/-- The number from 0 to m that is nearest to n. -/
def wit (n m : Int) : Int := min (max 0 n) m
theorem wit_bd {n m : Int} (h : 0 ≤ m) : 0 ≤ wit n m ∧ wit n m ≤ m := by unfold wit; omega
def nwD (r : Int) : PDk := ⟨[], wit r 4194304, false, false, 0, 0⟩
theorem ok_nw (r : Int) : OkD (nwD r) := ⟨Byt.nil, by simp [nwD], (wit_bd (by decide)).1, (wit_bd (by decide)).2, Int.le_refl _, by simp [nwD]⟩
def roD (d : PDk) (r : Int) : PDk := { d with room := wit r 4194304 }
theorem OkD.ro {d : PDk} (h : OkD d) (r : Int) : OkD (roD d r) := ⟨h.byt, h.len, (wit_bd (by decide)).1, (wit_bd (by decide)).2, h.w0, h.w1⟩
def bkD (d : PDk) (a t : Int) : PDk := { d with due := true, wr := max 0 a, te := t }
theorem OkD.bk {d : PDk} (h : OkD d) {a : Int} (ha : a ≤ 9223372036854775807) (t : Int) : OkD (bkD d a t) := ⟨h.byt, h.len, h.r0, h.r1, by show 0 ≤ max 0 a; omega, by show max 0 a ≤ _; omega⟩
def meD (d : PDk) : PDk := { d with dead := false, due := false, wr := 0, te := 0 }
theorem OkD.me {d : PDk} (h : OkD d) : OkD (meD d) := ⟨h.byt, h.len, h.r0, h.r1, Int.le_refl _, by simp [meD]⟩
/-- A disk that died. -/
def diD (d : PDk) : PDk := { d with dead := true, due := false, wr := 0, te := 0 }
theorem OkD.di {d : PDk} (h : OkD d) : OkD (diD d) := ⟨h.byt, h.len, h.r0, h.r1, Int.le_refl _, by simp [diD]⟩
/-- Why nothing is written. -/
def noD (d : PDk) (n : Int) : Int := if d.dead = true then 115 else if d.room < n then 113 else 0
/-- Does it break now? -/
def brD (d : PDk) : Bool := d.due && (d.wr == 0)
/-- A write is counted. -/
def coD (d : PDk) : PDk := if d.due = true ∧ d.wr ≠ 0 then { d with wr := d.wr - 1 } else d
theorem OkD.co {d : PDk} (h : OkD d) : OkD (coD d) := by
  unfold coD
  split
  · rename_i hh
    have := h.w0; have := h.w1
    exact ⟨h.byt, h.len, h.r0, h.r1, by show 0 ≤ d.wr - 1; omega, by show d.wr - 1 ≤ _; omega⟩
  · exact h
theorem co_l (d : PDk) : (coD d).l = d.l := by unfold coD; split <;> rfl
theorem co_room (d : PDk) : (coD d).room = d.room := by unfold coD; split <;> rfl
theorem co_dead (d : PDk) : (coD d).dead = d.dead := by unfold coD; split <;> rfl
theorem co_te (d : PDk) : (coD d).te = d.te := by unfold coD; split <;> rfl
theorem co_br {d : PDk} (h : brD d = true) : coD d = d := by
  unfold brD at h
  unfold coD
  rw [if_neg]
  rintro ⟨h1, h2⟩
  simp [h2] at h
/-- A write: bytes behind what is there. -/
def apD (d : PDk) (b : List Int) : PDk × Int :=
  if noD d (d.l.length + b.length) ≠ 0 then (d, noD d (d.l.length + b.length))
  else if brD d = true then (diD { d with l := d.l ++ b.take (wit d.te b.length).toNat }, 115)
  else ({ coD d with l := d.l ++ b }, 0)
/-- A write: bytes in the place of all. -/
def reD (d : PDk) (b : List Int) : PDk × Int :=
  if noD d b.length ≠ 0 then (d, noD d b.length)
  else if brD d = true then (diD d, 115)
  else ({ coD d with l := b }, 0)
theorem noD_ok {d : PDk} {n : Int} (h : noD d n = 0) : d.dead = false ∧ n ≤ d.room := by
  unfold noD at h
  split at h
  · cases h
  · split at h
    · cases h
    · rename_i h1 h2
      exact ⟨by simpa using h1, by omega⟩
theorem OkD.ap {d : PDk} (h : OkD d) {b : List Int} (hb : Byt b) : OkD (apD d b).1 := by
  unfold apD
  split
  · exact h
  · rename_i h0
    obtain ⟨_, h1⟩ := noD_ok (Decidable.not_not.1 h0)
    have := h.r1
    split
    · refine OkD.di ⟨Byt.app h.byt (hb.take _), ?_, h.r0, h.r1, h.w0, h.w1⟩
      simp only [List.length_append, List.length_take]
      omega
    · have hc := h.co
      refine ⟨Byt.app h.byt hb, ?_, hc.r0, hc.r1, hc.w0, hc.w1⟩
      simp only [List.length_append]
      omega
theorem OkD.re {d : PDk} (h : OkD d) {b : List Int} (hb : Byt b) : OkD (reD d b).1 := by
  unfold reD
  split
  · exact h
  · rename_i h0
    obtain ⟨_, h1⟩ := noD_ok (Decidable.not_not.1 h0)
    have := h.r1
    split
    · exact h.di
    · have hc := h.co
      exact ⟨hb, by show b.length ≤ _; omega, hc.r0, hc.r1, hc.w0, hc.w1⟩
end Go.Proofs.YteafgdidjdfiiaaGreat
end

section
set_option linter.unusedVariables false
set_option linter.unusedSimpArgs false
namespace Go.Proofs.YteafgdidjdfiiaaGreat
open Go.RowKit Oct

/-- A disk's six cells. -/
def dkc (v : Value) (d : PDk) : List Value := [v, .int .i64 d.room, .bool d.dead, .bool d.due, .int .i64 d.wr, .int .i64 d.te]
/-- A disk at block b, its bytes in v. -/
structure Dsk (w : World) (b : Nat) (v : Value) (d : PDk) : Prop where
  row : Row w b 62 (dkc v d)
  own : Own w 5 v (bc d.l)
  ok : OkD d
theorem own_row_nD {w : World} {e t : TypeId} {b : Nat} {xs ys : List Value} {v : Value} (hr : Row w b t xs) (h : Own w e v ys) (he : e ≠ t) : v.ownBlock ≠ some b := by
  intro hk
  rcases h.2 with ⟨rfl, _⟩ | ⟨g, _, cur, rfl, _, hg, _⟩
  · simp [Value.ownBlock] at hk
  · simp [Value.ownBlock] at hk
    subst hk
    unfold Row at hr
    rw [hg] at hr
    simp at hr
    exact he hr.2
theorem Dsk.ne {w : World} {b : Nat} {v : Value} {d : PDk} (h : Dsk w b v d) : v.ownBlock ≠ some b := own_row_nD h.row h.own (by decide)
theorem Dsk.nu {w : World} {b : Nat} {v u : Value} {d : PDk} {xs : List Value} (h : Dsk w b v d) (ho : Own w 5 u xs) : u.ownBlock ≠ some b := own_row_nD h.row ho (by decide)
theorem Dsk.below {w w' : World} {b : Nat} {v : Value} {d : PDk} (h : Dsk w b v d) (hb : Below w.heap.size w w') : Dsk w' b v d := ⟨h.row.below hb, h.own.below hb, h.ok⟩
theorem Dsk.grown {w w' : World} {b : Nat} {v : Value} {d : PDk} {r : Option Nat} (h : Dsk w b v d) (hg : w.grownBy w' r) (hr : r ≠ some b) (hv : ∀ k, r = some k → v.ownBlock ≠ some k) : Dsk w' b v d := ⟨h.row.grown hg hr, h.own.grown hg hv, h.ok⟩
theorem Dsk.lt {w : World} {b : Nat} {v : Value} {d : PDk} (h : Dsk w b v d) : b < w.heap.size := h.row.lt
/-- Of what was there only the disk's block and its bytes' may have turned. -/
structure Gr2 (w w' : World) (b : Nat) (v : Value) : Prop where
  os : w'.os = w.os
  tape : w'.tape = w.tape
  output : w'.output = w.output
  size : w.heap.size ≤ w'.heap.size
  block : ∀ k, k < w.heap.size → k ≠ b → v.ownBlock ≠ some k → w'.heap[k]? = w.heap[k]?
theorem Gr2.refl (w : World) (b : Nat) (v : Value) : Gr2 w w b v := ⟨rfl, rfl, rfl, Nat.le_refl _, fun _ _ _ _ => rfl⟩
theorem Gr2.of {w w' : World} {b : Nat} {v : Value} (h : w.grownBy w' (some b)) : Gr2 w w' b v := ⟨h.os, h.tape, h.output, h.size, fun k hk hne _ => h.block k hk (fun e => hne (by injection e))⟩
theorem Gr2.ofv {w w' : World} {b : Nat} {v : Value} (h : w.grownBy w' v.ownBlock) : Gr2 w w' b v := ⟨h.os, h.tape, h.output, h.size, fun k hk _ hv => h.block k hk (fun e => hv e.symm)⟩
theorem Gr2.bel {w w' : World} {b : Nat} {v : Value} (h : Below w.heap.size w w') : Gr2 w w' b v := ⟨h.os, h.tape, h.output, h.size, fun k hk _ _ => h.block k hk⟩
/-- Where the new bytes lie. -/
def Spt (w : World) (v v' : Value) : Prop := v'.ownBlock = v.ownBlock ∨ Fr w.heap.size v'
theorem Gr2.trans {w w1 w2 : World} {b : Nat} {v v1 : Value} (h : Gr2 w w1 b v) (hs : Spt w v v1) (h' : Gr2 w1 w2 b v1) : Gr2 w w2 b v :=
  ⟨h'.os.trans h.os, h'.tape.trans h.tape, h'.output.trans h.output, Nat.le_trans h.size h'.size, fun k hk hne hv => by
    refine (h'.block k (Nat.lt_of_lt_of_le hk h.size) hne ?_).trans (h.block k hk hne hv)
    rcases hs with e | hf
    · rw [e]; exact hv
    · intro e
      have := hf k e
      omega⟩
theorem Gr2.below {w w' : World} {b B : Nat} {v : Value} (h : Gr2 w w' b v) (hB : B ≤ w.heap.size) (hb : B ≤ b) (hv : Fr B v) : Below B w w' :=
  ⟨h.os, h.tape, h.output, h.size, fun k hk => h.block k (by omega) (by omega) (fun e => by have := hv k e; omega)⟩
theorem Gr2.rd {w w' : World} {b : Nat} {v u : Value} {l : List Int} (h : Gr2 w w' b v) (hr : Rd w u l) (hb : l ≠ [] → u.ownBlock ≠ some b) (hv : l ≠ [] → ∀ k, v.ownBlock = some k → u.ownBlock ≠ some k) : Rd w' u l :=
  ⟨hr.1, hr.2.keep fun hx k hk hlt => by
    have hx : l ≠ [] := fun e => hx (by rw [e]; rfl)
    exact h.block k hlt (fun e => hb hx (by rw [hk, e])) (fun e => hv hx k e hk)⟩
theorem Gr2.own {w w' : World} {b : Nat} {v u : Value} {e : TypeId} {xs : List Value} (h : Gr2 w w' b v) (hr : Own w e u xs) (hb : u.ownBlock ≠ some b) (hv : ∀ k, v.ownBlock = some k → u.ownBlock ≠ some k) : Own w' e u xs := by
  obtain ⟨h1, h2⟩ := hr
  refine ⟨h1, ?_⟩
  rcases h2 with h2 | ⟨g, cap, cur, rfl, h3, hg, h4⟩
  · exact .inl h2
  · refine .inr ⟨g, cap, cur, rfl, h3, ?_, h4⟩
    rw [h.block g ((Array.getElem?_eq_some_iff.1 hg).1) (fun e => hb (by rw [← e]; rfl)) (fun e => hv g e rfl)]
    exact hg
theorem Gr2.row {w w' : World} {b c : Nat} {v : Value} {t : TypeId} {xs : List Value} (h : Gr2 w w' b v) (hr : Row w c t xs) (hb : c ≠ b) (hv : v.ownBlock ≠ some c) : Row w' c t xs := (h.block c hr.lt hb hv).trans hr

theorem withinD_any (w : World) (n m : Int) : Calls Tryz.prog 53 #[.int .i64 n, .int .i64 m] w fun e w' => e = .returned (.int .i64 (wit n m)) ∧ w' = w := by
  obtain ⟨q, hq⟩ : ∃ q, q = wit n m := ⟨_, rfl⟩
  rw [← hq]
  unfold wit at hq
  go_enter Tryz.func53, Tryz.ntmps53
  go_wp2_with fail
  all_goals (
    go_ret
    exact ⟨ret_int (by omega), rfl⟩)

set_option maxRecDepth 10000 in
theorem refusal_any (w : World) (b : Nat) (v : Value) (d : PDk) (n : Int) (h : Dsk w b v d) :
    Calls Tryz.prog 56 #[.pointer (some ⟨b, 0, none⟩), .int .i64 n] w fun e w' => e = .returned (.int .i64 (noD d n)) ∧ w' = w := by
  have c1 := h.row.cell (j := 1) rfl
  have c2 := h.row.cell (j := 2) rfl
  unfold noD
  clear h
  obtain ⟨l, room, dead, due, wr, te⟩ := d
  cases dead with
  | true =>
    go_enter Tryz.func56, Tryz.ntmps56
    go_wp2_with fail
    go_ret
    exact ⟨rfl, rfl⟩
  | false =>
    by_cases hr : room < n
    · simp only [if_pos hr]
      go_enter Tryz.func56, Tryz.ntmps56
      go_wp2_with fail
      go_ret
      exact ⟨rfl, rfl⟩
    · simp only [if_neg hr]
      go_enter Tryz.func56, Tryz.ntmps56
      go_wp2_with fail
      go_ret
      exact ⟨rfl, rfl⟩

set_option maxRecDepth 10000 in
theorem breaks_any (w : World) (b : Nat) (v : Value) (d : PDk) (h : Dsk w b v d) :
    Calls Tryz.prog 57 #[.pointer (some ⟨b, 0, none⟩)] w fun e w' => e = .returned (.bool (brD d)) ∧ Dsk w' b v (coD d) ∧ w.grownBy w' (some b) := by
  have c3 := h.row.cell (j := 3) rfl
  have c4 := h.row.cell (j := 4) rfl
  have hrow := h.row
  have hco := h.ok.co
  have hne := h.ne
  have how := h.own
  have h0 := h.ok.w0
  have h1 := h.ok.w1
  unfold brD
  unfold coD at *
  obtain ⟨l, room, dead, due, wr, te⟩ := d
  simp only at c3 c4 h0 h1 hrow how
  cases due with
  | false =>
    simp only [Bool.false_eq_true, false_and, if_false, Bool.false_and] at *
    go_enter Tryz.func57, Tryz.ntmps57
    go_wp2_with fail
    go_ret
    exact ⟨rfl, h, grown_refl _ _⟩
  | true =>
    by_cases hw : wr = 0
    · subst hw
      simp only [ne_eq, not_true_eq_false, and_false, if_false, Bool.true_and] at *
      go_enter Tryz.func57, Tryz.ntmps57
      go_wp2_with fail
      go_ret
      exact ⟨rfl, h, grown_refl _ _⟩
    · have hb : (wr == 0) = false := by simp [hw]
      simp only [ne_eq, hw, not_false_eq_true, and_self, if_true, hb, Bool.true_and] at hco ⊢
      clear h
      go_enter Tryz.func57, Tryz.ntmps57
      go_wp2_with (refine wl_set rfl _ _ _ rfl b 4 _ rfl rfl _ _ hrow (show 4 < 6 by decide) (by kernel_rfl) rfl ?_; intro w3 hr3 hg3)
      go_ret
      refine ⟨rfl, ⟨hr3.out, how.grown hg3 (fun k hk => by cases hk; exact hne), hco⟩, hg3⟩

set_option maxRecDepth 10000 in
theorem die_any (w : World) (b : Nat) (v : Value) (d : PDk) (h : Dsk w b v d) :
    Calls Tryz.prog 58 #[.pointer (some ⟨b, 0, none⟩)] w fun e w' => e = .returned (.int .i64 115) ∧ Dsk w' b v (diD d) ∧ w.grownBy w' (some b) := by
  have hrow := h.row
  have hdi := h.ok.di
  have hne := h.ne
  have how := h.own
  clear h
  obtain ⟨l, room, dead, due, wr, te⟩ := d
  go_enter Tryz.func58, Tryz.ntmps58
  go_wp2_with (first
    | (refine wl_put rfl _ _ _ rfl b 3 [.bool false, .int .i64 0, .int .i64 0] rfl rfl _ _ hr3.out (show 6 ≤ 6 by decide) (by kernel_rfl) (by simp [Value.oneCell']) ?_; intro w4 hr4 hg4)
    | (refine wl_set rfl _ _ _ rfl b 2 _ rfl rfl _ _ hrow (show 2 < 6 by decide) (by kernel_rfl) rfl ?_; intro w3 hr3 hg3))
  go_ret
  have hg := grown_trans hg3 hg4 (.inl rfl)
  refine ⟨rfl, ⟨hr4.out, how.grown hg (fun k hk => by cases hk; exact hne), hdi⟩, hg⟩

set_option maxRecDepth 10000 in
theorem mend_any (w : World) (b : Nat) (v : Value) (d : PDk) (h : Dsk w b v d) :
    Calls Tryz.prog 12 #[.pointer (some ⟨b, 0, none⟩)] w fun e w' => e = .returned (.tuple #[]) ∧ Dsk w' b v (meD d) ∧ w.grownBy w' (some b) := by
  have hrow := h.row
  have hdi := h.ok.me
  have hne := h.ne
  have how := h.own
  clear h
  obtain ⟨l, room, dead, due, wr, te⟩ := d
  go_enter Tryz.func12, Tryz.ntmps12
  go_wp2_with (first
    | (refine wl_put rfl _ _ _ rfl b 3 [.bool false, .int .i64 0, .int .i64 0] rfl rfl _ _ hr3.out (show 6 ≤ 6 by decide) (by kernel_rfl) (by simp [Value.oneCell']) ?_; intro w4 hr4 hg4)
    | (refine wl_set rfl _ _ _ rfl b 2 _ rfl rfl _ _ hrow (show 2 < 6 by decide) (by kernel_rfl) rfl ?_; intro w3 hr3 hg3))
  go_end0
  have hg := grown_trans hg3 hg4 (.inl rfl)
  refine ⟨rfl, ⟨hr4.out, how.grown hg (fun k hk => by cases hk; exact hne), hdi⟩, hg⟩

set_option maxRecDepth 10000 in
theorem break_any (w : World) (b : Nat) (v : Value) (d : PDk) (a t : Int) (h : Dsk w b v d) (ha : a ≤ 9223372036854775807) :
    Calls Tryz.prog 7 #[.pointer (some ⟨b, 0, none⟩), .int .i64 a, .int .i64 t] w fun e w' => e = .returned (.tuple #[]) ∧ Dsk w' b v (bkD d a t) ∧ w.grownBy w' (some b) := by
  have hrow := h.row
  have hdi := h.ok.bk ha t
  have hne := h.ne
  have how := h.own
  clear h ha
  unfold bkD at *
  obtain ⟨l, room, dead, due, wr, te⟩ := d
  by_cases ha : 0 < a
  · rw [Int.max_eq_right (by omega)] at *
    go_enter Tryz.func7, Tryz.ntmps7
    go_wp2_with (refine wl_put rfl _ _ _ rfl b 3 [.bool true, .int .i64 a, .int .i64 t] rfl rfl _ _ hrow (show 6 ≤ 6 by decide) (by kernel_rfl) (by simp [Value.oneCell']) ?_; intro w4 hr4 hg4)
    go_end0
    refine ⟨rfl, ⟨hr4.out, how.grown hg4 (fun k hk => by cases hk; exact hne), hdi⟩, hg4⟩
  · rw [Int.max_eq_left (by omega)] at *
    go_enter Tryz.func7, Tryz.ntmps7
    go_wp2_with (refine wl_put rfl _ _ _ rfl b 3 [.bool true, .int .i64 0, .int .i64 t] rfl rfl _ _ hrow (show 6 ≤ 6 by decide) (by kernel_rfl) (by simp [Value.oneCell']) ?_; intro w4 hr4 hg4)
    go_end0
    refine ⟨rfl, ⟨hr4.out, how.grown hg4 (fun k hk => by cases hk; exact hne), hdi⟩, hg4⟩

set_option maxRecDepth 10000 in
theorem dead_any (w : World) (b : Nat) (v : Value) (d : PDk) (h : Dsk w b v d) :
    Calls Tryz.prog 11 #[.pointer (some ⟨b, 0, none⟩)] w fun e w' => e = .returned (.bool d.dead) ∧ w' = w := by
  have c2 := h.row.cell (j := 2) rfl
  clear h
  obtain ⟨l, room, dead, due, wr, te⟩ := d
  go_enter Tryz.func11, Tryz.ntmps11
  go_wp2_with fail
  go_ret
  exact ⟨rfl, rfl⟩

set_option maxRecDepth 10000 in
theorem room_any (w : World) (b : Nat) (v : Value) (d : PDk) (n : Int) (h : Dsk w b v d) :
    Calls Tryz.prog 20 #[.pointer (some ⟨b, 0, none⟩), .int .i64 n] w fun e w' => e = .returned (.tuple #[]) ∧ Dsk w' b v (roD d n) ∧ w.grownBy w' (some b) := by
  have hrow := h.row
  have hdi := h.ok.ro n
  have hne := h.ne
  have how := h.own
  clear h
  unfold roD at *
  obtain ⟨l, room, dead, due, wr, te⟩ := d
  go_enter Tryz.func20, Tryz.ntmps20
  go_wp2_with (first
    | (refine wl_set rfl _ _ _ rfl b 1 _ rfl rfl _ _ hrow (show 1 < 6 by decide) (by kernel_rfl) rfl ?_; intro w3 hr3 hg3)
    | (go_at_call 53; refine (withinD_any w n 4194304).mono ?_; rintro e w0 ⟨rfl, rfl⟩))
  go_end0
  refine ⟨rfl, ⟨hr3.out, how.grown hg3 (fun k hk => by cases hk; exact hne), hdi⟩, hg3⟩

set_option maxRecDepth 10000 in
theorem newD_any (w : World) (n : Int) :
    Calls Tryz.prog 5 #[.int .i64 n] w fun e w' => ∃ b, e = .returned (.pointer (some ⟨b, 0, none⟩)) ∧ w.heap.size ≤ b ∧ Dsk w' b (.slice none 0 0) (nwD n) ∧ Below w.heap.size w w' := by
  have hB := below_alloc w (.cells (dkc (.slice none 0 0) ⟨[], 0, false, false, 0, 0⟩).toArray 62)
  have hd : Dsk (w.alloc (.cells (dkc (.slice none 0 0) ⟨[], 0, false, false, 0, 0⟩).toArray 62)) w.heap.size (.slice none 0 0) ⟨[], 0, false, false, 0, 0⟩ := ⟨Row.new w 62 _, Own.nil _ _, ⟨Byt.nil, by decide, by decide, by decide, by decide, by decide⟩⟩
  obtain ⟨w1, hw1⟩ : ∃ w1, w1 = w.alloc (.cells (dkc (.slice none 0 0) ⟨[], 0, false, false, 0, 0⟩).toArray 62) := ⟨_, rfl⟩
  rw [← hw1] at hB hd
  have HR := (show Hid (∀ _ : Unit, _) from fun _ => room_any w1 w.heap.size _ _ n hd)
  go_enter Tryz.func5, Tryz.ntmps5
  go_upto_region 2 with fail
  have hw1' : w.alloc (.cells #[.slice none 0 0, .int .i64 0, .bool false, .bool false, .int .i64 0, .int .i64 0] 62) = w1 := hw1.symm
  rw [hw1']
  clear hw1 hw1'
  go_wp2_with (go_at_call 20; refine (HR.out ()).mono ?_; rintro e w2 ⟨rfl, hd2, hg2⟩)
  go_ret
  exact ⟨_, rfl, Nat.le_refl _, hd2, hB.trans (grown_below hg2 hB.size (fun k hk => by cases hk; exact Nat.le_refl _))⟩

set_option maxRecDepth 10000 in
theorem bytesD_any (w : World) (b : Nat) (v : Value) (d : PDk) (h : Dsk w b v d) :
    Calls Tryz.prog 21 #[.pointer (some ⟨b, 0, none⟩)] w fun e w' => ∃ v', e = .returned v' ∧ Own w' 5 v' (bc d.l) ∧ Fr w.heap.size v' ∧ Below w.heap.size w w' := by
  have c0 := h.row.cell (j := 0) rfl
  have hC := clone_own w v d.l (h.own.rd h.ok.byt) (by have := h.ok.len; omega)
  obtain ⟨av, cv, rfl, _⟩ := h.own.form
  rw [bc_len] at *
  have HC := (show Hid (∀ _ : Unit, _) from fun _ => hC)
  clear h hC
  obtain ⟨l, room, dead, due, wr, te⟩ := d
  go_enter Tryz.func21, Tryz.ntmps21
  go_wp2_with (go_at_call 54; refine (HC.out ()).mono ?_; rintro e w2 ⟨v2, rfl, ho2, hf2, hb2⟩)
  go_ret
  exact ⟨_, rfl, ho2, hf2, hb2⟩
end Go.Proofs.YteafgdidjdfiiaaGreat
end
