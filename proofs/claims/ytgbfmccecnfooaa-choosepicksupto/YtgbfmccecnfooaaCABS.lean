/- The document's Pick of layer 18. Written by mk19f.py. -/
import Derived.Test.YtgbfmccecnfooaaCABP
import Derived.Test.YtgbfmccecnfooaaCAAV
import Derived.Test.YtgbfmccecnfooaaCABH
import Derived.Deep.RegionHeld3
import Derived.Deep.MidRow
set_option linter.unusedSimpArgs false
set_option linter.unusedVariables false
namespace Go.Proofs.Ytgbfmccecnfooaa
open Go.RowKit Oct Bal
theorem Try.infPrepD : (Try.prog.info? 45).map (fun i => (i.zero, i.size, i.bytes)) = some (some (.agg #[.int .i64 0, .int .i64 0, .int .i64 0, .int .i64 0, .int .i64 0, .slice none 0 0, .slice none 0 0, .slice none 0 0]), 8, 112) := by kernel_rfl
theorem pkR_all (k : Int) (rs : List PRep) : pkR k rs = pkL k none (allP rs) := by
  have key : ∀ (rs : List PRep) (o : Option PPrep), rs.foldl (fun o r => pkL k o r.2.2.2.2.2.1) o = pkL k o (allP rs) := by
    intro rs
    induction rs with
    | nil => intro o; rfl
    | cons r rs ih =>
      intro o
      rw [List.foldl_cons, ih]
      unfold allP pkL
      rw [List.flatMap_cons, List.foldl_append]
  exact key rs none
theorem allP_take {rs : List PRep} {n : Nat} {r : PRep} (h : rs[n]? = some r) : allP (rs.take (n + 1)) = allP (rs.take n) ++ r.2.2.2.2.2.1 := by
  unfold allP
  rw [List.take_add_one, h, List.flatMap_append]
  simp
theorem allP_le (rs : List PRep) (n : Nat) : (allP (rs.take n)).length ≤ (allP rs).length := by
  have e : allP rs = allP (rs.take n) ++ allP (rs.drop n) := by
    unfold allP
    rw [← List.flatMap_append, List.take_append_drop]
  rw [e, List.length_append]
  omega
theorem midP {w : World} {g k : Nat} {t : TypeId} {xs : List Value} {a b : Value} (h : Row w g t xs) (h0 : xs[k]? = some a) (h1 : xs[k + 1]? = some b) : w.rangeAt g k [a, b] := fun j v hj => by
  match j, hj with
  | 0, hj => cases hj; exact h.cell h0
  | 1, hj => cases hj; exact h.cell h1
theorem LB.boxK {W w w' : World} {B c : Nat} {v : Value} {ys : List PPrep} (h : LB (RPk W) 45 8 B w v ys) (hg : w.grownBy w' (some c)) (hn : ∀ g, v.ownBlock = some g → g ≠ c) : LB (RPk W) 45 8 B w' v ys := by
  obtain ⟨rows, h0, h1, h2, h3⟩ := h
  refine ⟨rows, h0, World.ownsRow.kept (row := some c) h1 hg ?_, h2, h3⟩
  cases hv : v.ownBlock with
  | none => exact .inl rfl
  | some q => exact .inr fun e => hn q hv (Option.some.inj e)
/-- Where the best stands, and which it is. -/
def AtO (ps : List PPrep) (at' : Int) (o : Option PPrep) : Prop := match o with | none => at' = -1 | some p => 0 ≤ at' ∧ ps[at'.toNat]? = some p
theorem LB.fmP {α : Type} {R : (Nat → Prop) → World → List Value → α → Prop} {T : TypeId} {k B : Nat} {w : World} {v : Value} {ys : List α} (h : LB R T k B w v ys) : ∃ ao cap, v = .slice ao ys.length cap := by
  obtain ⟨rows, h0, h1, h2, h3⟩ := h
  rcases h1.2 with ⟨rfl, e⟩ | ⟨g, cap, cur, rfl, _⟩
  · have := h3.len
    exact ⟨none, 0, by rw [← this, e]⟩
  · have := h3.len
    exact ⟨_, cap, by rw [← this]⟩
set_option maxRecDepth 10000 in
set_option maxHeartbeats 8000000 in
theorem pickD_in (w0 w : World) (hW0 : Below w0.heap.size w0 w) (k : Int) (v : Value) (ys : List PRep) (hvs : RL RRep 8 Any w0 v ys) (hsum : (allP ys).length * 112 ≤ 140737488355328) :
    Calls Try.prog 12 #[.int .i64 k, v] w fun e w' => ∃ r, e = .returned (.agg r.toArray) ∧ RReq Any w0 r (reqO (pkR k ys)) ∧ Below w.heap.size w w' := by
  obtain ⟨aa, ca, rfl, _⟩ := hvs.form
  have hlv := len_rep hvs
  obtain ⟨w1, hw1⟩ : ∃ u, u = w.alloc (.cells #[.int .i64 0, .int .i64 0, .slice none 0 0, .slice none 0 0] 36) := ⟨_, rfl⟩
  obtain ⟨w2, hw2⟩ : ∃ u, u = w1.alloc (.cells #[] 45) := ⟨_, rfl⟩
  have e1 : w1.heap.size = w.heap.size + 1 := by rw [hw1]; simp
  have B1 : Below w.heap.size w w1 := by rw [hw1]; exact below_alloc _ _
  have B2 : Below w1.heap.size w1 w2 := by rw [hw2]; exact below_alloc _ _
  have R1 : Row w1 w.heap.size 36 [.int .i64 0, .int .i64 0, .slice none 0 0, .slice none 0 0] := by rw [hw1]; exact Row.new _ _ _
  have hL2 := LB.fresh (RPk w0) 45 8 w1.heap.size w1 (Nat.le_refl _)
  rw [← hw2, e1] at hL2
  have R1 := R1.below B2
  have BB := below_and B1 (Nat.le_refl _) B2
  have hN2 : w.heap.size + 1 ≤ w2.heap.size := by have := B2.size; omega
  have hw : w2 = (w.alloc (.cells #[.int .i64 0, .int .i64 0, .slice none 0 0, .slice none 0 0] 36)).alloc (.cells #[] 45) := by rw [hw2, hw1]
  clear hw1 hw2 e1 B1 B2
  go_enter Try.func12, Try.ntmps12
  go_upto_region 2 with fail
  rw [← hw]
  clear hw
  go_wp2_with fail
  go_loopw [5, 15] (fun l j wr => ∃ n : Nat, n ≤ ys.length ∧ j = .int .i64 n ∧ LB (RPk w0) 45 8 (w.heap.size + 1) wr l (allP (ys.take n)) ∧ Row wr w.heap.size 36 [.int .i64 0, .int .i64 0, .slice none 0 0, .slice none 0 0] ∧ Below w.heap.size w wr ∧ w.heap.size + 1 ≤ wr.heap.size) (fun _ j _ => ys.length - (intOf j).toNat)
  case atStart => exact ⟨0, by omega, rfl, hL2, R1, BB, hN2⟩
  case round =>
    clear hL2 R1 BB hN2
    obtain ⟨n, hn, rfl, hL, hRq, hBw, hsz⟩ := hrel
    have hB := below_and hW0 (Nat.le_refl _) hBw
    obtain ⟨PL, hPL⟩ : ∃ PL, PL = allP (ys.take n) := ⟨_, rfl⟩
    have hle := allP_le ys n
    rw [← hPL] at hL hle
    have HPL := (show Hid (PL = allP (ys.take n)) from hPL)
    clear hPL
    obtain ⟨la, lc, rfl⟩ := hL.fmP
    by_cases hnl : n < ys.length
    case pos =>
      obtain ⟨A, hA⟩ : ∃ A, ys[n]? = some A := ⟨_, List.getElem?_eq_getElem hnl⟩
      obtain ⟨bv, off, cap, hve, _, _, _, hbv, hat⟩ := hvs.at (by omega)
      obtain ⟨rvv, _, hrng, rd, rs, rp, rg, rfl, t1, t2, t3, t4⟩ := hat n _ hA
      injection hve with hv1 hv2 hv3
      subst hv1 hv3
      clear hv2 hat
      have hrng := rangeAt_block hrng (hB.block bv hbv)
      have hrow0 := Row.new wr 30 [.int .i64 0, .int .i64 0, .int .i64 0, .int .i64 0, .slice none 0 0, .slice none 0 0, .slice none 0 0, .slice none 0 0]
      have hon := one_RRep (G := Any) (w := w0) (x := A) ⟨rd, rs, rp, rg, rfl, t1, t2, t3, t4⟩
      go_upto_region 5 with (first
        | (refine wpList_load_mid rfl _ _ rfl bv (off + n * 8) rfl [.int .i64 A.1.1, .int .i64 A.1.2, .int .i64 A.2.1, .int .i64 A.2.2.1, rd, rs, rp, rg] _ hrng Try.underlying30 rfl (by kernel_rfl) ?_)
        | (refine wl_store rfl _ _ _ rfl wr.heap.size [.int .i64 A.1.1, .int .i64 A.1.2, .int .i64 A.2.1, .int .i64 A.2.2.1, rd, rs, rp, rg] rfl rfl _ _ hrow0 rfl (by kernel_rfl) hon ?_; intro w8 rR g8))
      have b8 : Below wr.heap.size wr w8 := (below_alloc wr (.cells ([.int .i64 0, .int .i64 0, .int .i64 0, .int .i64 0, .slice none 0 0, .slice none 0 0, .slice none 0 0, .slice none 0 0] : List Value).toArray 30)).trans (grown_below g8 (by simp) (fun k hk => by cases hk; exact Nat.le_refl _))
      have rR := rR.out
      have hB8 := below_and hB (Nat.le_refl _) b8
      obtain ⟨cR, hcR⟩ : ∃ c, c = wr.heap.size := ⟨_, rfl⟩
      rw [← hcR] at rR ⊢
      clear hrow0 g8 hrng hon
      clear hcR
      have hst : allP (ys.take (n + 1)) = PL ++ A.2.2.2.2.2.1 := by rw [allP_take hA, HPL.out]
      have hle2 := allP_le ys (n + 1)
      rw [hst, List.length_append] at hle2
      have HST := (show Hid (_ = _) from hst)
      have hL8 := hL.below (mov_pk w0) b8
      have hRq8 := hRq.below b8
      have h8s := Nat.le_trans hsz b8.size
      have hBw8 := below_and hBw (Nat.le_refl _) b8
      obtain ⟨pa, pcap, rfl, _⟩ := t3.form
      have k6 := rR.cell (j := 6) rfl
      have HT := (show Hid (RL RPrep 8 Any w0 (.slice pa A.2.2.2.2.2.1.length pcap) A.2.2.2.2.2.1) from t3)
      have HHL := (show Hid (PL.length + A.2.2.2.2.2.1.length ≤ (allP ys).length) from hle2)
      clear hst hA b8 hL t1 t2 t3 t4 hB hRq hle hle2
      generalize A.2.2.2.2.2.1 = PS at *
      go_wp2_with (at_builtin; go_loud (refine wl_pushesK (W := w0) rfl _ _ _ rfl 45 112 _ Try.underlying28 Try.infPrepD rfl (w.heap.size + 1) (.slice la PL.length lc) PL rfl hL8 (.slice pa PS.length pcap) PS HT.out hB8 rfl h8s (by have := HHL.out; omega) (by decide) ?_; intro v7 w7 hL7 g7))
      have hB7 := hBw8.trans (grown_below g7 hBw8.size (fun q hq => by have := hL8.fr q hq; omega))
      have hRq7 := hRq8.grown g7 (fun e => by have := hL8.fr _ e; omega)
      go_roundw
      case rel => exact ⟨n + 1, by omega, by go_num, by rw [HST.out]; exact hL7, hRq7, hB7, Nat.le_trans h8s g7.size⟩
      case measure => simp [intOf]; omega
    have hPe : PL = allP ys := by rw [HPL.out, List.take_of_length_le (by omega)]
    have hpk := pkR_all k ys
    rw [← hPe] at hpk
    have HPK := (show Hid (pkR k ys = pkL k none PL) from hpk)
    have hlP : (PL.length : Int) ≤ 9223372036854775807 := by omega
    clear hpk hPe HPL hle hsum hvs hlv
    have hB := hBw
    have hrow8 := Row.new wr 36 [.int .i64 0, .int .i64 0, .slice none 0 0, .slice none 0 0]
    have h36z : ∀ u, (Instr.build 36 #[]).run Try.prog u = .ok (.agg ([.int .i64 0, .int .i64 0, .slice none 0 0, .slice none 0 0] : List Value).toArray) u := fun u => by kernel_rfl
    go_upto_region 9 with (go_loud (refine wl_store rfl _ _ _ rfl wr.heap.size [.int .i64 0, .int .i64 0, .slice none 0 0, .slice none 0 0] rfl rfl _ _ hrow8 rfl (by kernel_rfl) (one4 rfl rfl) ?_; intro w5 r5 g5))
    have b5 : Below wr.heap.size wr w5 := (below_alloc wr (.cells ([.int .i64 0, .int .i64 0, .slice none 0 0, .slice none 0 0] : List Value).toArray 36)).trans (grown_below g5 (by simp) (fun k hk => by cases hk; exact Nat.le_refl _))
    have r5 := r5.out
    have hRq5 := hRq.below b5
    have hB5 := below_and hB (Nat.le_refl _) b5
    have hcQ : wr.heap.size ≠ w.heap.size := by omega
    have hcQ2 : w.heap.size ≤ wr.heap.size := hB.size
    obtain ⟨cQ, hcQe⟩ : ∃ c, c = wr.heap.size := ⟨_, rfl⟩
    rw [← hcQe] at r5 hcQ hcQ2 ⊢
    have hcQs : ∀ g, (Value.slice la PL.length lc).ownBlock = some g → g ≠ cQ := fun g e => by have := hL.lt g e; omega
    have hL5 := hL.below (mov_pk w0) b5
    have h5s := Nat.le_trans hsz b5.size
    clear hrow8 g5 hcQe hRq hB hL b5 h36z
    have HCQ := (show Hid (∀ g, (Value.slice la PL.length lc).ownBlock = some g → g ≠ cQ) from hcQs)
    clear hcQs
    have hzq : RReq Any w0 [.int .i64 0, .int .i64 0, .slice none 0 0, .slice none 0 0] qz := ⟨_, _, rfl, RT.nil _ _, RT.nil _ _⟩
    go_wp2_with fail
    go_loopw [9, 27] (fun a j wr => ∃ (i : Nat) (at0 : Int) (qo qs : Value), i ≤ PL.length ∧ j = .int .i64 i ∧ a = .int .i64 at0 ∧ AtO PL at0 ((PL.take i).foldl (pkS k) none) ∧ at0 < i ∧ RReq Any w0 [.int .i64 (reqO ((PL.take i).foldl (pkS k) none)).1, .int .i64 (reqO ((PL.take i).foldl (pkS k) none)).2.1, qo, qs] (reqO ((PL.take i).foldl (pkS k) none)) ∧ Row wr cQ 36 [.int .i64 (reqO ((PL.take i).foldl (pkS k) none)).1, .int .i64 (reqO ((PL.take i).foldl (pkS k) none)).2.1, qo, qs] ∧ Row wr w.heap.size 36 [.int .i64 0, .int .i64 0, .slice none 0 0, .slice none 0 0] ∧ LB (RPk w0) 45 8 (w.heap.size + 1) wr (.slice la PL.length lc) PL ∧ Below w.heap.size w wr) (fun _ j _ => PL.length - (intOf j).toNat)
    case atStart => exact ⟨0, -1, _, _, by omega, rfl, rfl, rfl, by omega, hzq, r5, hRq5, hL5, hB5⟩
    case round =>
      clear hRq5 r5 hL5 hB5 hzq
      obtain ⟨i, at0, qo, qs, hi, rfl, rfl, hAt, hlt, hq0, hQ, hRq, hL, hB⟩ := hrel
      by_cases hil : i < PL.length
      case neg =>
        have hy : PL.take i = PL := List.take_of_length_le (by omega)
        have hpk := HPK.out
        unfold pkL at hpk
        rw [hy] at hq0 hQ
        rw [← hpk] at hq0 hQ
        have HQ0 := (show Hid (RReq Any w0 [.int .i64 (reqO (pkR k ys)).1, .int .i64 (reqO (pkR k ys)).2.1, qo, qs] (reqO (pkR k ys))) from hq0)
        have hone := one_RReq hq0
        clear hq0 hAt hy hpk
        go_wp2_with (first
          | (refine wl_load rfl _ _ rfl cQ rfl _ _ hQ _ Try.underlying36 rfl (by kernel_rfl) ?_)
          | (refine wl_store rfl _ _ _ rfl w.heap.size [.int .i64 (reqO (pkR k ys)).1, .int .i64 (reqO (pkR k ys)).2.1, qo, qs] rfl rfl _ _ hRq rfl (by kernel_rfl) hone ?_; intro w6 R6 g6))
        refine bodyPost_ret (v := .agg ([.int .i64 (reqO (pkR k ys)).1, .int .i64 (reqO (pkR k ys)).2.1, qo, qs] : List Value).toArray) (results_cell_row rfl _ _ w.heap.size _ _ (0, 0) _ (by rfl) R6.out Try.underlying36 rfl (by kernel_rfl)) rfl ?_
        have hBf : Below w.heap.size w w6 := hB.trans (grown_below g6 hB.size (fun q hq => by cases hq; exact Nat.le_refl _))
        exact ⟨_, rfl, HQ0.out, hBf⟩
      have HT := (show Hid (RL (RPk w0) 8 Any wr (.slice la PL.length lc) PL) from (hL.rl (mov_pk w0)).mv (mov_pk w0) (Nat.le_refl _) Mv.any)
      have hBB := Below.refl wr.heap.size wr
      obtain ⟨P, hP⟩ : ∃ P, PL[i]? = some P := ⟨_, List.getElem?_eq_getElem hil⟩
      obtain ⟨bw, offp, capp, hve, _, _, _, hbw, hat⟩ := (HT.out).at (by omega)
      obtain ⟨rww, _, hrnp, po, ps, pc, rfl, u1, u2, u3⟩ := hat i _ hP
      injection hve with hv1 hv2 hv3
      subst hv1 hv3
      have HATQ := (show Hid (∀ (i : Nat) (a : PPrep), PL[i]? = some a → ∃ r, r.length = 8 ∧ wr.rangeAt bw (offp + i * 8) r ∧ RPk w0 Any wr r a) from hat)
      clear hv2 hat
      have hrnp := rangeAt_block hrnp (hBB.block bw hbw)
      have hrow0 := Row.new wr 45 [.int .i64 0, .int .i64 0, .int .i64 0, .int .i64 0, .int .i64 0, .slice none 0 0, .slice none 0 0, .slice none 0 0]
      have hon := one_RPrep (G := Any) (w := w0) (x := P) ⟨po, ps, pc, rfl, u1, u2, u3⟩
      go_upto_region 12 with (first
        | (refine wpList_load_mid rfl _ _ rfl bw (offp + i * 8) rfl [.int .i64 P.1, .int .i64 P.2.1.1, .int .i64 P.2.1.2, .int .i64 P.2.2.1.1, .int .i64 P.2.2.1.2.1, po, ps, pc] _ hrnp Try.underlying45 rfl (by kernel_rfl) ?_)
        | (refine wl_store rfl _ _ _ rfl wr.heap.size [.int .i64 P.1, .int .i64 P.2.1.1, .int .i64 P.2.1.2, .int .i64 P.2.2.1.1, .int .i64 P.2.2.1.2.1, po, ps, pc] rfl rfl _ _ hrow0 rfl (by kernel_rfl) hon ?_; intro w9 rP g9))
      have b9 : Below wr.heap.size wr w9 := (below_alloc wr (.cells ([.int .i64 0, .int .i64 0, .int .i64 0, .int .i64 0, .int .i64 0, .slice none 0 0, .slice none 0 0, .slice none 0 0] : List Value).toArray 45)).trans (grown_below g9 (by simp) (fun k hk => by cases hk; exact Nat.le_refl _))
      have rP := rP.out
      have hB9 := below_and hBB (Nat.le_refl _) b9
      obtain ⟨cP, hcP⟩ : ∃ c, c = wr.heap.size := ⟨_, rfl⟩
      rw [← hcP] at rP ⊢
      clear hrow0 g9 hrnp hon
      have hPw : RPrep Any w0 [.int .i64 P.1, .int .i64 P.2.1.1, .int .i64 P.2.1.2, .int .i64 P.2.2.1.1, .int .i64 P.2.2.1.2.1, po, ps, pc] P := ⟨_, _, _, rfl, u1, u2, u3⟩
      have hL9 := hL.below (mov_pk w0) b9
      have hQ9 := hQ.below b9
      have hRq9 := hRq.below b9
      have hBw9 := below_and hB (Nat.le_refl _) b9
      have hcPQ : cP ≠ cQ := by have := hQ.lt; omega
      have hst := foldl_take (f := pkS k) (b := none) hP
      have HST := (show Hid (_ = _) from hst)
      have HPM := (show Hid (PL[i]? = some P) from hP)
      have HRP := (show Hid (RPrep Any w0 [.int .i64 P.1, .int .i64 P.2.1.1, .int .i64 P.2.1.2, .int .i64 P.2.2.1.1, .int .i64 P.2.2.1.2.1, po, ps, pc] P) from hPw)
      clear hst hP b9 hcP hL hQ hRq HT hBB
      generalize (PL.take i).foldl (pkS k) none = o at *
      have B0 : Below w9.heap.size w9 w9.drew := ⟨rfl, rfl, rfl, Nat.le_refl _, fun _ _ => rfl⟩
      have hRP0 := rP.below B0
      by_cases hk : P.1 = k
      case neg =>
        have d1 : (P.1 == k) = false := by simp [hk]
        have he : pkS k o P = o := by unfold pkS; simp [hk]
        have HE := (show Hid (pkS k o P = o) from he)
        clear he hk
        try go_simp
        refine wp_region_held_drew (S := fun u => Row u cP 45 [.int .i64 P.1, .int .i64 P.2.1.1, .int .i64 P.2.1.2, .int .i64 P.2.2.1.1, .int .i64 P.2.2.1.2.1, po, ps, pc]) (by kernel_rfl) hRP0 (fun hHeld => ?_)
        clear hHeld
        refine wpAnyH_take (i := 0) (v := .pointer (some ⟨cP, 0, none⟩)) rfl (by kernel_rfl) (by kernel_rfl) (by kernel_rfl) (fun _ _ _ h => h) (Or.inl ⟨by kernel_rfl, fun u hSu => by go_simp⟩) hRP0 ?_
        simp only [Act.put, List.setIfInBounds_toArray, List.set_cons_zero, List.set_cons_succ]
        refine wpAnyH_take (i := 1) (v := .int .i64 P.1) rfl (by kernel_rfl) (by kernel_rfl) (by kernel_rfl) (fun _ _ _ h => h) (Or.inl ⟨by kernel_rfl, fun u hSu => by have hck := hSu.cell (j := 0) rfl; go_simp⟩) hRP0 ?_
        simp only [Act.put, List.setIfInBounds_toArray, List.set_cons_zero, List.set_cons_succ]
        refine wpAnyH_take (i := 2) (v := .int .i64 k) rfl (by kernel_rfl) (by kernel_rfl) (by kernel_rfl) (fun _ _ _ h => h) (Or.inl ⟨by kernel_rfl, fun u hSu => by go_simp⟩) hRP0 ?_
        simp only [Act.put, List.setIfInBounds_toArray, List.set_cons_zero, List.set_cons_succ]
        refine wpAnyH_take (i := 3) (v := .bool false) rfl (by kernel_rfl) (by kernel_rfl) (by kernel_rfl) (fun _ _ _ h => h) (Or.inl ⟨by kernel_rfl, fun u hSu => by go_simp⟩) hRP0 ?_
        simp only [Act.put, List.setIfInBounds_toArray, List.set_cons_zero, List.set_cons_succ]
        refine wpAnyH_take (i := 4) (v := .bool false) rfl (by kernel_rfl) (by kernel_rfl) (by kernel_rfl) (fun _ _ _ h => h) (Or.inl ⟨by kernel_rfl, fun u hSu => by go_simp⟩) hRP0 ?_
        simp only [Act.put, List.setIfInBounds_toArray, List.set_cons_zero, List.set_cons_succ]
        refine wpAnyH_take (i := 5) (v := undef) rfl (by kernel_rfl) (by kernel_rfl) (by kernel_rfl) (fun _ _ _ h => h) (Or.inr ⟨by kernel_rfl, rfl⟩) hRP0 ?_
        simp only [Act.put, List.setIfInBounds_toArray, List.set_cons_zero, List.set_cons_succ]
        refine wpAnyH_take (i := 6) (v := undef) rfl (by kernel_rfl) (by kernel_rfl) (by kernel_rfl) (fun _ _ _ h => h) (Or.inr ⟨by kernel_rfl, rfl⟩) hRP0 ?_
        simp only [Act.put, List.setIfInBounds_toArray, List.set_cons_zero, List.set_cons_succ]
        refine wpAnyH_take (i := 7) (v := undef) rfl (by kernel_rfl) (by kernel_rfl) (by kernel_rfl) (fun _ _ _ h => h) (Or.inr ⟨by kernel_rfl, rfl⟩) hRP0 ?_
        simp only [Act.put, List.setIfInBounds_toArray, List.set_cons_zero, List.set_cons_succ]
        refine wpAnyH_take (i := 8) (v := undef) rfl (by kernel_rfl) (by kernel_rfl) (by kernel_rfl) (fun _ _ _ h => h) (Or.inr ⟨by kernel_rfl, rfl⟩) hRP0 ?_
        simp only [Act.put, List.setIfInBounds_toArray, List.set_cons_zero, List.set_cons_succ]
        refine wpAnyH_take (i := 9) (v := undef) rfl (by kernel_rfl) (by kernel_rfl) (by kernel_rfl) (fun _ _ _ h => h) (Or.inr ⟨by kernel_rfl, rfl⟩) hRP0 ?_
        simp only [Act.put, List.setIfInBounds_toArray, List.set_cons_zero, List.set_cons_succ]
        refine wpAnyH_take (i := 10) (v := undef) rfl (by kernel_rfl) (by kernel_rfl) (by kernel_rfl) (fun _ _ _ h => h) (Or.inr ⟨by kernel_rfl, rfl⟩) hRP0 ?_
        simp only [Act.put, List.setIfInBounds_toArray, List.set_cons_zero, List.set_cons_succ]
        refine wpAnyH_take (i := 11) (v := undef) rfl (by kernel_rfl) (by kernel_rfl) (by kernel_rfl) (fun _ _ _ h => h) (Or.inr ⟨by kernel_rfl, rfl⟩) hRP0 ?_
        simp only [Act.put, List.setIfInBounds_toArray, List.set_cons_zero, List.set_cons_succ]
        refine wpAnyH_take (i := 12) (v := undef) rfl (by kernel_rfl) (by kernel_rfl) (by kernel_rfl) (fun _ _ _ h => h) (Or.inr ⟨by kernel_rfl, rfl⟩) hRP0 ?_
        simp only [Act.put, List.setIfInBounds_toArray, List.set_cons_zero, List.set_cons_succ]
        refine wpAnyH_take (i := 13) (v := undef) rfl (by kernel_rfl) (by kernel_rfl) (by kernel_rfl) (fun _ _ _ h => h) (Or.inr ⟨by kernel_rfl, rfl⟩) hRP0 ?_
        simp only [Act.put, List.setIfInBounds_toArray, List.set_cons_zero, List.set_cons_succ]
        refine wpAnyH_take (i := 14) (v := undef) rfl (by kernel_rfl) (by kernel_rfl) (by kernel_rfl) (fun _ _ _ h => h) (Or.inr ⟨by kernel_rfl, rfl⟩) hRP0 ?_
        simp only [Act.put, List.setIfInBounds_toArray, List.set_cons_zero, List.set_cons_succ]
        refine wpAnyH_take (i := 15) (v := undef) rfl (by kernel_rfl) (by kernel_rfl) (by kernel_rfl) (fun _ _ _ h => h) (Or.inr ⟨by kernel_rfl, rfl⟩) hRP0 ?_
        simp only [Act.put, List.setIfInBounds_toArray, List.set_cons_zero, List.set_cons_succ]
        refine wpAnyH_take (i := 16) (v := undef) rfl (by kernel_rfl) (by kernel_rfl) (by kernel_rfl) (fun _ _ _ h => h) (Or.inr ⟨by kernel_rfl, rfl⟩) hRP0 ?_
        simp only [Act.put, List.setIfInBounds_toArray, List.set_cons_zero, List.set_cons_succ]
        refine wpAnyH_take (i := 17) (v := undef) rfl (by kernel_rfl) (by kernel_rfl) (by kernel_rfl) (fun _ _ _ h => h) (Or.inr ⟨by kernel_rfl, rfl⟩) hRP0 ?_
        simp only [Act.put, List.setIfInBounds_toArray, List.set_cons_zero, List.set_cons_succ]
        refine wpAnyH_take (i := 18) (v := .bool false) rfl (by kernel_rfl) (by kernel_rfl) (by kernel_rfl) (fun _ _ _ h => h) (Or.inl ⟨by kernel_rfl, fun u hSu => by go_simp⟩) hRP0 ?_
        simp only [Act.put, List.setIfInBounds_toArray, List.set_cons_zero, List.set_cons_succ]
        refine wpAnyH_done (by kernel_rfl) ?_ _
        go_simp
        clear hRP0
        go_wp2_with fail
        go_roundw
        case rel => exact ⟨i + 1, _, qo, qs, by omega, by go_num, rfl, by rw [HST.out, HE.out]; exact hAt, by omega, by rw [HST.out, HE.out]; exact hq0, by rw [HST.out, HE.out]; exact hQ9.below B0, hRq9.below B0, hL9.below (mov_pk w0) B0, below_and hBw9 (Nat.le_refl _) B0⟩
        case measure => simp [intOf]; omega
      have d1 : (P.1 == k) = true := by simp [hk]
      cases o with
      | none =>
        obtain rfl : at0 = -1 := hAt
        have he : pkS k none P = some P := by unfold pkS bea; simp [hk]
        have HE := (show Hid (pkS k none P = some P) from he)
        clear he hk
        try go_simp
        refine wp_region_held_drew (S := fun u => Row u cP 45 [.int .i64 P.1, .int .i64 P.2.1.1, .int .i64 P.2.1.2, .int .i64 P.2.2.1.1, .int .i64 P.2.2.1.2.1, po, ps, pc]) (by kernel_rfl) hRP0 (fun hHeld => ?_)
        clear hHeld
        refine wpAnyH_take (i := 0) (v := .pointer (some ⟨cP, 0, none⟩)) rfl (by kernel_rfl) (by kernel_rfl) (by kernel_rfl) (fun _ _ _ h => h) (Or.inl ⟨by kernel_rfl, fun u hSu => by go_simp⟩) hRP0 ?_
        simp only [Act.put, List.setIfInBounds_toArray, List.set_cons_zero, List.set_cons_succ]
        refine wpAnyH_take (i := 1) (v := .int .i64 P.1) rfl (by kernel_rfl) (by kernel_rfl) (by kernel_rfl) (fun _ _ _ h => h) (Or.inl ⟨by kernel_rfl, fun u hSu => by have hck := hSu.cell (j := 0) rfl; go_simp⟩) hRP0 ?_
        simp only [Act.put, List.setIfInBounds_toArray, List.set_cons_zero, List.set_cons_succ]
        refine wpAnyH_take (i := 2) (v := .int .i64 k) rfl (by kernel_rfl) (by kernel_rfl) (by kernel_rfl) (fun _ _ _ h => h) (Or.inl ⟨by kernel_rfl, fun u hSu => by go_simp⟩) hRP0 ?_
        simp only [Act.put, List.setIfInBounds_toArray, List.set_cons_zero, List.set_cons_succ]
        refine wpAnyH_take (i := 3) (v := .bool true) rfl (by kernel_rfl) (by kernel_rfl) (by kernel_rfl) (fun _ _ _ h => h) (Or.inl ⟨by kernel_rfl, fun u hSu => by go_simp⟩) hRP0 ?_
        simp only [Act.put, List.setIfInBounds_toArray, List.set_cons_zero, List.set_cons_succ]
        refine wpAnyH_take (i := 4) (v := .bool true) rfl (by kernel_rfl) (by kernel_rfl) (by kernel_rfl) (fun _ _ _ h => h) (Or.inl ⟨by kernel_rfl, fun u hSu => by go_simp⟩) hRP0 ?_
        simp only [Act.put, List.setIfInBounds_toArray, List.set_cons_zero, List.set_cons_succ]
        refine wpAnyH_take (i := 5) (v := .int .i64 (-1)) rfl (by kernel_rfl) (by kernel_rfl) (by kernel_rfl) (fun _ _ _ h => h) (Or.inl ⟨by kernel_rfl, fun u hSu => by go_simp⟩) hRP0 ?_
        simp only [Act.put, List.setIfInBounds_toArray, List.set_cons_zero, List.set_cons_succ]
        refine wpAnyH_take (i := 6) (v := .bool true) rfl (by kernel_rfl) (by kernel_rfl) (by kernel_rfl) (fun _ _ _ h => h) (Or.inl ⟨by kernel_rfl, fun u hSu => by go_simp⟩) hRP0 ?_
        simp only [Act.put, List.setIfInBounds_toArray, List.set_cons_zero, List.set_cons_succ]
        refine wpAnyH_take (i := 7) (v := .bool true) rfl (by kernel_rfl) (by kernel_rfl) (by kernel_rfl) (fun _ _ _ h => h) (Or.inl ⟨by kernel_rfl, fun u hSu => by go_simp⟩) hRP0 ?_
        simp only [Act.put, List.setIfInBounds_toArray, List.set_cons_zero, List.set_cons_succ]
        refine wpAnyH_take (i := 8) (v := undef) rfl (by kernel_rfl) (by kernel_rfl) (by kernel_rfl) (fun _ _ _ h => h) (Or.inr ⟨by kernel_rfl, rfl⟩) hRP0 ?_
        simp only [Act.put, List.setIfInBounds_toArray, List.set_cons_zero, List.set_cons_succ]
        refine wpAnyH_take (i := 9) (v := undef) rfl (by kernel_rfl) (by kernel_rfl) (by kernel_rfl) (fun _ _ _ h => h) (Or.inr ⟨by kernel_rfl, rfl⟩) hRP0 ?_
        simp only [Act.put, List.setIfInBounds_toArray, List.set_cons_zero, List.set_cons_succ]
        refine wpAnyH_take (i := 10) (v := undef) rfl (by kernel_rfl) (by kernel_rfl) (by kernel_rfl) (fun _ _ _ h => h) (Or.inr ⟨by kernel_rfl, rfl⟩) hRP0 ?_
        simp only [Act.put, List.setIfInBounds_toArray, List.set_cons_zero, List.set_cons_succ]
        refine wpAnyH_take (i := 11) (v := undef) rfl (by kernel_rfl) (by kernel_rfl) (by kernel_rfl) (fun _ _ _ h => h) (Or.inr ⟨by kernel_rfl, rfl⟩) hRP0 ?_
        simp only [Act.put, List.setIfInBounds_toArray, List.set_cons_zero, List.set_cons_succ]
        refine wpAnyH_take (i := 12) (v := undef) rfl (by kernel_rfl) (by kernel_rfl) (by kernel_rfl) (fun _ _ _ h => h) (Or.inr ⟨by kernel_rfl, rfl⟩) hRP0 ?_
        simp only [Act.put, List.setIfInBounds_toArray, List.set_cons_zero, List.set_cons_succ]
        refine wpAnyH_take (i := 13) (v := undef) rfl (by kernel_rfl) (by kernel_rfl) (by kernel_rfl) (fun _ _ _ h => h) (Or.inr ⟨by kernel_rfl, rfl⟩) hRP0 ?_
        simp only [Act.put, List.setIfInBounds_toArray, List.set_cons_zero, List.set_cons_succ]
        refine wpAnyH_take (i := 14) (v := undef) rfl (by kernel_rfl) (by kernel_rfl) (by kernel_rfl) (fun _ _ _ h => h) (Or.inr ⟨by kernel_rfl, rfl⟩) hRP0 ?_
        simp only [Act.put, List.setIfInBounds_toArray, List.set_cons_zero, List.set_cons_succ]
        refine wpAnyH_take (i := 15) (v := undef) rfl (by kernel_rfl) (by kernel_rfl) (by kernel_rfl) (fun _ _ _ h => h) (Or.inr ⟨by kernel_rfl, rfl⟩) hRP0 ?_
        simp only [Act.put, List.setIfInBounds_toArray, List.set_cons_zero, List.set_cons_succ]
        refine wpAnyH_take (i := 16) (v := undef) rfl (by kernel_rfl) (by kernel_rfl) (by kernel_rfl) (fun _ _ _ h => h) (Or.inr ⟨by kernel_rfl, rfl⟩) hRP0 ?_
        simp only [Act.put, List.setIfInBounds_toArray, List.set_cons_zero, List.set_cons_succ]
        refine wpAnyH_take (i := 17) (v := .bool true) rfl (by kernel_rfl) (by kernel_rfl) (by kernel_rfl) (fun _ _ _ h => h) (Or.inl ⟨by kernel_rfl, fun u hSu => by go_simp⟩) hRP0 ?_
        simp only [Act.put, List.setIfInBounds_toArray, List.set_cons_zero, List.set_cons_succ]
        refine wpAnyH_take (i := 18) (v := .bool true) rfl (by kernel_rfl) (by kernel_rfl) (by kernel_rfl) (fun _ _ _ h => h) (Or.inl ⟨by kernel_rfl, fun u hSu => by go_simp⟩) hRP0 ?_
        simp only [Act.put, List.setIfInBounds_toArray, List.set_cons_zero, List.set_cons_succ]
        refine wpAnyH_done (by kernel_rfl) ?_ _
        go_simp
        clear hRP0
        have hrp := rP.below B0
        obtain ⟨_, _, _, hpe, pu1, pu2, pu3⟩ := HRP.out
        have hRQ : RReq Any w0 [.int .i64 P.2.2.1.1, .int .i64 P.2.2.1.2.1, po, ps] P.2.2.1 := by cases hpe; exact ⟨_, _, rfl, pu1, pu2⟩
        have HRQ := (show Hid (RReq Any w0 [.int .i64 P.2.2.1.1, .int .i64 P.2.2.1.2.1, po, ps] P.2.2.1) from hRQ)
        have hon4 := one_RReq hRQ
        have hQx := hQ9.below B0
        clear hpe pu1 pu2 pu3 hRQ
        go_wp2_with (first
          | (refine wl_part rfl _ _ rfl cP 3 rfl _ _ hrp [.int .i64 P.2.2.1.1, .int .i64 P.2.2.1.2.1, po, ps] rfl _ Try.underlying36 rfl (by kernel_rfl) ?_)
          | (refine wl_store rfl _ _ _ rfl cQ [.int .i64 P.2.2.1.1, .int .i64 P.2.2.1.2.1, po, ps] rfl rfl _ _ hQx rfl (by kernel_rfl) hon4 ?_; intro wy Ry gy))
        have hBx := below_and hBw9 (Nat.le_refl _) B0
        go_roundw
        case rel => exact ⟨i + 1, i, _, _, by omega, by go_num, rfl, by rw [HST.out, HE.out]; exact ⟨by omega, by rw [Int.toNat_natCast]; exact HPM.out⟩, by omega, by rw [HST.out, HE.out]; exact HRQ.out, by rw [HST.out, HE.out]; exact Ry.out, (hRq9.below B0).grown gy (fun e => hcQ (Option.some.inj e)), (hL9.below (mov_pk w0) B0).boxK gy (fun g e => HCQ.out g e), hBx.trans (grown_below gy hBx.size (fun q hq => by cases hq; exact hcQ2))⟩
        case measure => simp [intOf]; omega
      | some q =>
        obtain ⟨h0, hqm⟩ : 0 ≤ at0 ∧ PL[at0.toNat]? = some q := hAt
        obtain ⟨m, rfl⟩ : ∃ m : Nat, at0 = (m : Int) := ⟨at0.toNat, by omega⟩
        rw [Int.toNat_natCast] at hqm
        have hm2 : m < PL.length := (List.getElem?_eq_some_iff.1 hqm).1
        obtain ⟨rq, _, hrq, qpo, qps, qpc, rfl, _⟩ := HATQ.out m q hqm
        have hrq := rangeAt_block hrq (hB9.block bw hbw)
        have hgq : bw < w9.heap.size := Nat.lt_of_lt_of_le hbw hB9.size
        have HRG := (show Hid (∀ u, Below w9.heap.size w9 u → u.rangeAt bw (offp + m * 8 + 1) [.int .i64 q.2.1.1, .int .i64 q.2.1.2]) from fun u hu j v hj => by
          have hx := rangeAt_block hrq (hu.block bw hgq)
          match j, hj with
          | 0, hj => cases hj; exact hx 1 _ rfl
          | 1, hj => cases hj; exact hx 2 _ rfl)
        have hE0 : pkS k (some q) P = if decide (0 < cmp2 P.2.1.1 P.2.1.2 q.2.1.1 q.2.1.2) then some P else some q := by unfold pkS bea; simp [hk]
        have hCq := refCompareB_any w9.drew P.2.1.1 P.2.1.2 q.2.1.1 q.2.1.2
        have dm : decide ((m : Int) < 0) = false := decide_eq_false (by omega)
        have S0 : Row w9.drew cP 45 [.int .i64 P.1, .int .i64 P.2.1.1, .int .i64 P.2.1.2, .int .i64 P.2.2.1.1, .int .i64 P.2.2.1.2.1, po, ps, pc] ∧ w9.drew.rangeAt bw (offp + m * 8 + 1) [.int .i64 q.2.1.1, .int .i64 q.2.1.2] := ⟨hRP0, HRG.out _ B0⟩
        have HAT := (show Hid (AtO PL (m : Int) (some q)) from ⟨by omega, by rw [Int.toNat_natCast]; exact hqm⟩)
        clear hk hqm hrq
        generalize cmp2 P.2.1.1 P.2.1.2 q.2.1.1 q.2.1.2 = cc at *
        try go_simp
        refine wp_region_held_drew (S := fun u => Row u cP 45 [.int .i64 P.1, .int .i64 P.2.1.1, .int .i64 P.2.1.2, .int .i64 P.2.2.1.1, .int .i64 P.2.2.1.2.1, po, ps, pc] ∧ u.rangeAt bw (offp + m * 8 + 1) [.int .i64 q.2.1.1, .int .i64 q.2.1.2]) (by kernel_rfl) S0 (fun hHeld => ?_)
        clear hHeld
        refine wpAnyH_take (i := 0) (v := .pointer (some ⟨cP, 0, none⟩)) rfl (by kernel_rfl) (by kernel_rfl) (by kernel_rfl) (fun _ _ _ h => h) (Or.inl ⟨by kernel_rfl, fun u hSu => by go_simp⟩) S0 ?_
        simp only [Act.put, List.setIfInBounds_toArray, List.set_cons_zero, List.set_cons_succ]
        refine wpAnyH_take (i := 1) (v := .int .i64 P.1) rfl (by kernel_rfl) (by kernel_rfl) (by kernel_rfl) (fun _ _ _ h => h) (Or.inl ⟨by kernel_rfl, fun u hSu => by have hck := hSu.1.cell (j := 0) rfl; go_simp⟩) S0 ?_
        simp only [Act.put, List.setIfInBounds_toArray, List.set_cons_zero, List.set_cons_succ]
        refine wpAnyH_take (i := 2) (v := .int .i64 k) rfl (by kernel_rfl) (by kernel_rfl) (by kernel_rfl) (fun _ _ _ h => h) (Or.inl ⟨by kernel_rfl, fun u hSu => by go_simp⟩) S0 ?_
        simp only [Act.put, List.setIfInBounds_toArray, List.set_cons_zero, List.set_cons_succ]
        refine wpAnyH_take (i := 3) (v := .bool true) rfl (by kernel_rfl) (by kernel_rfl) (by kernel_rfl) (fun _ _ _ h => h) (Or.inl ⟨by kernel_rfl, fun u hSu => by go_simp⟩) S0 ?_
        simp only [Act.put, List.setIfInBounds_toArray, List.set_cons_zero, List.set_cons_succ]
        refine wpAnyH_take (i := 4) (v := .bool true) rfl (by kernel_rfl) (by kernel_rfl) (by kernel_rfl) (fun _ _ _ h => h) (Or.inl ⟨by kernel_rfl, fun u hSu => by go_simp⟩) S0 ?_
        simp only [Act.put, List.setIfInBounds_toArray, List.set_cons_zero, List.set_cons_succ]
        refine wpAnyH_take (i := 5) (v := .int .i64 m) rfl (by kernel_rfl) (by kernel_rfl) (by kernel_rfl) (fun _ _ _ h => h) (Or.inl ⟨by kernel_rfl, fun u hSu => by go_simp⟩) S0 ?_
        simp only [Act.put, List.setIfInBounds_toArray, List.set_cons_zero, List.set_cons_succ]
        refine wpAnyH_take (i := 6) (v := .bool false) rfl (by kernel_rfl) (by kernel_rfl) (by kernel_rfl) (fun _ _ _ h => h) (Or.inl ⟨by kernel_rfl, fun u hSu => by go_simp⟩) S0 ?_
        simp only [Act.put, List.setIfInBounds_toArray, List.set_cons_zero, List.set_cons_succ]
        refine wpAnyH_take (i := 7) (v := .bool false) rfl (by kernel_rfl) (by kernel_rfl) (by kernel_rfl) (fun _ _ _ h => h) (Or.inl ⟨by kernel_rfl, fun u hSu => by go_simp⟩) S0 ?_
        simp only [Act.put, List.setIfInBounds_toArray, List.set_cons_zero, List.set_cons_succ]
        refine wpAnyH_take (i := 8) (v := .pointer (some ⟨cP, 1, none⟩)) rfl (by kernel_rfl) (by kernel_rfl) (by kernel_rfl) (fun _ _ _ h => h) (Or.inl ⟨by kernel_rfl, fun u hSu => by go_simp⟩) S0 ?_
        simp only [Act.put, List.setIfInBounds_toArray, List.set_cons_zero, List.set_cons_succ]
        refine wpAnyH_take (i := 9) (v := .agg #[.int .i64 P.2.1.1, .int .i64 P.2.1.2]) rfl (by kernel_rfl) (by kernel_rfl) (by kernel_rfl) (fun _ _ _ h => h) (yieldsIf_load_mid (by kernel_rfl) _ _ rfl cP 1 (by go_simp) [.int .i64 P.2.1.1, .int .i64 P.2.1.2] _ (fun u hu => midP hu.1 rfl rfl) Try.underlying25 rfl (by kernel_rfl)) S0 ?_
        simp only [Act.put, List.setIfInBounds_toArray, List.set_cons_zero, List.set_cons_succ]
        refine wpAnyH_take (i := 10) (v := .slice (some ⟨bw, offp, none⟩) PL.length lc) rfl (by kernel_rfl) (by kernel_rfl) (by kernel_rfl) (fun _ _ _ h => h) (Or.inl ⟨by kernel_rfl, fun u hSu => by go_simp⟩) S0 ?_
        simp only [Act.put, List.setIfInBounds_toArray, List.set_cons_zero, List.set_cons_succ]
        refine wpAnyH_take (i := 11) (v := .int .i64 m) rfl (by kernel_rfl) (by kernel_rfl) (by kernel_rfl) (fun _ _ _ h => h) (Or.inl ⟨by kernel_rfl, fun u hSu => by go_simp⟩) S0 ?_
        simp only [Act.put, List.setIfInBounds_toArray, List.set_cons_zero, List.set_cons_succ]
        refine wpAnyH_take (i := 12) (v := .pointer (some ⟨bw, offp + m * 8, none⟩)) rfl (by kernel_rfl) (by kernel_rfl) (by kernel_rfl) (fun _ _ _ h => h) (Or.inl ⟨by kernel_rfl, fun u hSu => by go_simp⟩) S0 ?_
        simp only [Act.put, List.setIfInBounds_toArray, List.set_cons_zero, List.set_cons_succ]
        refine wpAnyH_take (i := 13) (v := .pointer (some ⟨bw, offp + m * 8 + 1, none⟩)) rfl (by kernel_rfl) (by kernel_rfl) (by kernel_rfl) (fun _ _ _ h => h) (Or.inl ⟨by kernel_rfl, fun u hSu => by go_simp⟩) S0 ?_
        simp only [Act.put, List.setIfInBounds_toArray, List.set_cons_zero, List.set_cons_succ]
        refine wpAnyH_take (i := 14) (v := .agg #[.int .i64 q.2.1.1, .int .i64 q.2.1.2]) rfl (by kernel_rfl) (by kernel_rfl) (by kernel_rfl) (fun _ _ _ h => h) (yieldsIf_load_mid (by kernel_rfl) _ _ rfl bw (offp + m * 8 + 1) (by go_simp) [.int .i64 q.2.1.1, .int .i64 q.2.1.2] _ (fun u hu => hu.2) Try.underlying25 rfl (by kernel_rfl)) S0 ?_
        simp only [Act.put, List.setIfInBounds_toArray, List.set_cons_zero, List.set_cons_succ]
        refine wpAnyH_ready (rs := [15]) (by kernel_rfl) (by simp) ?_
        refine AllReadyH.cons (o := _) rfl (fun K hK => ?_) AllReadyH.nil
        go_simp
        refine hCq.mono ?_
        rintro e wx ⟨rfl, bx0⟩
        have bx := below_and B0 (Nat.le_refl _) bx0
        have S1 : Row wx cP 45 [.int .i64 P.1, .int .i64 P.2.1.1, .int .i64 P.2.1.2, .int .i64 P.2.2.1.1, .int .i64 P.2.2.1.2.1, po, ps, pc] ∧ wx.rangeAt bw (offp + m * 8 + 1) [.int .i64 q.2.1.1, .int .i64 q.2.1.2] := ⟨rP.below bx, HRG.out _ bx⟩
        try go_simp
        refine hK.out _ _ S1 (fun hHeld => ?_)
        clear hK K hHeld
        cases hd : decide (0 < cc) with
        | true =>
          rw [hd] at hE0
          have HE := (show Hid (pkS k (some q) P = some P) from hE0)
          clear hE0
          refine wpAnyH_take (i := 16) (v := .bool true) rfl (by kernel_rfl) (by kernel_rfl) (by kernel_rfl) (fun _ _ _ h => h) (Or.inl ⟨by kernel_rfl, fun u hSu => by go_simp⟩) S1 ?_
          simp only [Act.put, List.setIfInBounds_toArray, List.set_cons_zero, List.set_cons_succ]
          refine wpAnyH_take (i := 17) (v := .bool true) rfl (by kernel_rfl) (by kernel_rfl) (by kernel_rfl) (fun _ _ _ h => h) (Or.inl ⟨by kernel_rfl, fun u hSu => by go_simp⟩) S1 ?_
          simp only [Act.put, List.setIfInBounds_toArray, List.set_cons_zero, List.set_cons_succ]
          refine wpAnyH_take (i := 18) (v := .bool true) rfl (by kernel_rfl) (by kernel_rfl) (by kernel_rfl) (fun _ _ _ h => h) (Or.inl ⟨by kernel_rfl, fun u hSu => by go_simp⟩) S1 ?_
          simp only [Act.put, List.setIfInBounds_toArray, List.set_cons_zero, List.set_cons_succ]
          refine wpAnyH_done (by kernel_rfl) ?_ _
          have hrp := rP.below bx
          obtain ⟨_, _, _, hpe, pu1, pu2, pu3⟩ := HRP.out
          have hRQ : RReq Any w0 [.int .i64 P.2.2.1.1, .int .i64 P.2.2.1.2.1, po, ps] P.2.2.1 := by cases hpe; exact ⟨_, _, rfl, pu1, pu2⟩
          have HRQ := (show Hid (RReq Any w0 [.int .i64 P.2.2.1.1, .int .i64 P.2.2.1.2.1, po, ps] P.2.2.1) from hRQ)
          have hon4 := one_RReq hRQ
          have hQx := hQ9.below bx
          clear hpe pu1 pu2 pu3 hRQ
          go_wp2_with (first
            | (refine wl_part rfl _ _ rfl cP 3 rfl _ _ hrp [.int .i64 P.2.2.1.1, .int .i64 P.2.2.1.2.1, po, ps] rfl _ Try.underlying36 rfl (by kernel_rfl) ?_)
            | (refine wl_store rfl _ _ _ rfl cQ [.int .i64 P.2.2.1.1, .int .i64 P.2.2.1.2.1, po, ps] rfl rfl _ _ hQx rfl (by kernel_rfl) hon4 ?_; intro wy Ry gy))
          have hBx := below_and hBw9 (Nat.le_refl _) bx
          go_roundw
          case rel => exact ⟨i + 1, i, _, _, by omega, by go_num, rfl, by rw [HST.out, HE.out]; exact ⟨by omega, by rw [Int.toNat_natCast]; exact HPM.out⟩, by omega, by rw [HST.out, HE.out]; exact HRQ.out, by rw [HST.out, HE.out]; exact Ry.out, (hRq9.below bx).grown gy (fun e => hcQ (Option.some.inj e)), (hL9.below (mov_pk w0) bx).boxK gy (fun g e => HCQ.out g e), hBx.trans (grown_below gy hBx.size (fun q hq => by cases hq; exact hcQ2))⟩
          case measure => simp [intOf]; omega
        | false =>
          rw [hd] at hE0
          have HE := (show Hid (pkS k (some q) P = some q) from hE0)
          clear hE0
          have hAt := HAT.out
          refine wpAnyH_take (i := 16) (v := .bool false) rfl (by kernel_rfl) (by kernel_rfl) (by kernel_rfl) (fun _ _ _ h => h) (Or.inl ⟨by kernel_rfl, fun u hSu => by go_simp⟩) S1 ?_
          simp only [Act.put, List.setIfInBounds_toArray, List.set_cons_zero, List.set_cons_succ]
          refine wpAnyH_take (i := 17) (v := .bool false) rfl (by kernel_rfl) (by kernel_rfl) (by kernel_rfl) (fun _ _ _ h => h) (Or.inl ⟨by kernel_rfl, fun u hSu => by go_simp⟩) S1 ?_
          simp only [Act.put, List.setIfInBounds_toArray, List.set_cons_zero, List.set_cons_succ]
          refine wpAnyH_take (i := 18) (v := .bool false) rfl (by kernel_rfl) (by kernel_rfl) (by kernel_rfl) (fun _ _ _ h => h) (Or.inl ⟨by kernel_rfl, fun u hSu => by go_simp⟩) S1 ?_
          simp only [Act.put, List.setIfInBounds_toArray, List.set_cons_zero, List.set_cons_succ]
          refine wpAnyH_done (by kernel_rfl) ?_ _
          go_wp2_with fail
          go_roundw
          case rel => exact ⟨i + 1, _, qo, qs, by omega, by go_num, rfl, by rw [HST.out, HE.out]; exact hAt, by omega, by rw [HST.out, HE.out]; exact hq0, by rw [HST.out, HE.out]; exact hQ9.below bx, hRq9.below bx, hL9.below (mov_pk w0) bx, below_and hBw9 (Nat.le_refl _) bx⟩
          case measure => simp [intOf]; omega
end Go.Proofs.Ytgbfmccecnfooaa
