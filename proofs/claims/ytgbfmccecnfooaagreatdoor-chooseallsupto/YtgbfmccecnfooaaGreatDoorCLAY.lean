/- Sealed messages: vote.SealText. (mk12t.py) -/
import Derived.Test.YtgbfmccecnfooaaGreatDoorCLAT
import Derived.Test.YtgbfmccecnfooaaGreatDoorCLAV
import Derived.Test.YtgbfmccecnfooaaGreatDoorCLAS
import Derived.Deep.RegionHeld3
set_option linter.unusedSimpArgs false
set_option linter.unusedVariables false
namespace Go.Proofs.YtgbfmccecnfooaaGreatDoor
section
open Go.RowKit Oct
theorem WS.iter {w0 w : World} {b : Nat} {done : List Int} (h : WS w0 w b done) {k : Nat} {s : ByteArray} {p : Nat} (hk : w.heap[k]? = some (.stringIter s p)) (h0 : w0.heap.size ≤ k) (p' : Nat) : WS w0 (w.iterAt k s p') b done := by
  obtain ⟨bel, hb, v, many, lo, hrow, hown, hbyt, hfr, hlo, h1, h2⟩ := h
  have hkb : b ≠ k := by
    rintro rfl
    unfold Row at hrow
    rw [hk] at hrow
    cases hrow
  refine ⟨Lib.below_iterAt bel h0 s p', hb, v, many, lo, iter_low hrow hkb, ⟨hown.1, ?_⟩, hbyt, hfr, hlo, h1, h2⟩
  rcases hown.2 with hn | ⟨g, cap, cur, hv, hbg, hg, rest⟩
  · exact .inl hn
  · have hkg : g ≠ k := by
      rintro rfl
      rw [hk] at hg
      cases hg
    exact .inr ⟨g, cap, cur, hv, hbg, (Lib.iterAt_other w k g s p' hkg).trans hg, rest⟩
theorem ufr_iter {w w' : World} {b k : Nat} {s : ByteArray} {p : Nat} (h : UFr b w w') (hk : w.heap[k]? = some (.stringIter s p)) (hb : k ≠ b) : w'.heap[k]? = some (.stringIter s p) := by
  rw [h.block k (Array.getElem?_eq_some_iff.1 hk).1 hb (fun cs f e => by rw [hk] at e; cases e)]
  exact hk
theorem ws_new (w : World) : WS w (w.alloc (.cells #[.slice none 0 0, .bool false] 149)) w.heap.size [] :=
  ⟨below_alloc w _, Nat.le_refl _, .slice none 0 0, false, [], Row.new w 149 [.slice none 0 0, .bool false], Own.nil _ _, Byt.nil, Fr.nil _, by simp, fun _ => rfl, ⟨fun h => (by cases h), fun h => by simp at h⟩⟩
theorem bad_other {m : PMsg} (h : hasO m.kind m = true) : badM m = true := by
  unfold badM
  have : ((List.range 15).any fun i => !(fl m.kind).contains i && !zF m i) = true := h
  simp only [this, Bool.or_true, Bool.true_or]
theorem bad_field {m : PMsg} {i : Nat} (hi : i ∈ fl m.kind) (h : okF m i = false) : badM m = true := by
  unfold badM
  have : ((fl m.kind).any fun i => !okF m i) = true := by
    rw [List.any_eq_true]
    exact ⟨i, hi, by simp [h]⟩
  simp only [this, Bool.or_true]
theorem bad_none {m : PMsg} (h1 : fl m.kind ≠ []) (h2 : hasO m.kind m = false) (h3 : ∀ i ∈ fl m.kind, okF m i = true) : badM m = false := by
  unfold badM
  have e2 : ((List.range 15).any fun i => !(fl m.kind).contains i && !zF m i) = false := h2
  have e3 : ((fl m.kind).any fun i => !okF m i) = false := by
    rw [List.any_eq_false]
    intro i hi
    simp [h3 i hi]
  have e1 : (fl m.kind).isEmpty = false := by simpa using h1
  simp only [e1, e2, e3, Bool.or_false]
theorem encE_bad {m : PMsg} (h : badM m = true) : encE m = 51 := by unfold encE; rw [if_pos h]
theorem encE_many {m : PMsg} (h : badM m = false) (hl : 1048576 < (byM m).length) : encE m = 53 := by unfold encE; rw [if_neg (by rw [h]; decide), if_pos hl]
theorem encE_ok {m : PMsg} (h : badM m = false) (hl : ¬ 1048576 < (byM m).length) : encE m = 0 := by unfold encE; rw [if_neg (by rw [h]; decide), if_neg hl]
/-- Nothing was given up: what was laid is handed back. -/
theorem enc_back (w w1 : World) (m : PMsg) (pb pe : Nat) (v : Value) (hb : Row w1 pb 24 [v]) (he : Row w1 pe 99 [.int .i64 0]) (hB : Below w.heap.size w w1)
    (hE : encE m = 0) (hown : Own w1 5 v (bc (byM m))) (hbyt : Byt (byM m)) (hfr : Fr w.heap.size v) (tmps : Array Value) (h2 : tmps.getD 2 undef = .pointer (some ⟨pb, 0, none⟩)) (h3 : tmps.getD 3 undef = .pointer (some ⟨pe, 0, none⟩)) :
    bodyPostD Tryz.prog Tryz.f84 (EPost m w) .ret
      { tmps := tmps, defers := [{ target := .fn (.func 117) #[.pointer (some ⟨pb, 0, none⟩), .pointer (some ⟨pe, 0, none⟩)], args := #[] }] } w1 := by
  refine leaves_cons (f := 117) (args := #[.pointer (some ⟨pb, 0, none⟩), .pointer (some ⟨pe, 0, none⟩)]) (by simp) (by simp [go_sem]) ?_
  refine (encIdle pb pe w1).mono ?_
  rintro e u' w2 ⟨rfl, rfl, rfl⟩
  have e : encB m = byM m := by unfold encB; rw [if_pos hE]
  exact ⟨_, enc_results _ tmps pb pe _ _ hb he h2 h3, v, by rw [hE], by rw [e]; exact hown, by rw [e]; exact hbyt, hfr, hB⟩
set_option maxRecDepth 10000 in
set_option maxHeartbeats 4000000 in
theorem encode_some (w : World) (m : PMsg) (s : SV) (hs : SOk Any w m s) (hk : fl m.kind ≠ []) : Calls Tryz.prog 84 #[.agg (mc m s).toArray] w (EPost m w) := by
  obtain ⟨w3, hw3⟩ : ∃ w3, w3 = (((w.alloc (.cells (mc m s).toArray 72)).alloc (.cells #[.slice none 0 0] 24)).alloc (.cells #[.int .i64 0] 99)) := ⟨_, rfl⟩
  have hm : Row w3 w.heap.size 72 (mc m s) := by rw [hw3]; exact row_alloc (row_alloc (Row.new w 72 (mc m s)) _) _
  have hb : Row w3 (w.heap.size + 1) 24 [.slice none 0 0] := by
    rw [hw3]
    have := row_alloc (Row.new (w.alloc (.cells (mc m s).toArray 72)) 24 [.slice none 0 0]) (.cells #[.int .i64 0] 99)
    simpa using this
  have he : Row w3 (w.heap.size + 1 + 1) 99 [.int .i64 0] := by
    rw [hw3]
    have := Row.new ((w.alloc (.cells (mc m s).toArray 72)).alloc (.cells #[.slice none 0 0] 24)) 99 [.int .i64 0]
    simpa using this
  have hB3 : Below w.heap.size w w3 := by rw [hw3]; exact (((Below.refl _ w).alloc (Nat.le_refl _) _).alloc (by simp) _).alloc (by simp; omega) _
  go_enter_defers Tryz.func84, Tryz.ntmps84
  go_upto_region 1 with fail
  rw [← hw3]
  clear hw3
  have c0 := hm.cell (j := 0) rfl
  have hF := fieldsOf_any w3 m.kind
  have hH := hasOther_any w3 m s (hs.below hB3) m.kind
  have hse : (fsB m.kind).toList.isEmpty = false := by rw [fsB_empty]; simpa using hk
  have hpb : w.heap.size ≤ w.heap.size + 1 := by omega
  have hpe : w.heap.size ≤ w.heap.size + 1 + 1 := by omega
  have hne : w.heap.size + 1 ≠ w.heap.size + 1 + 1 := by omega
  generalize w.heap.size + 1 + 1 = pe at *
  generalize w.heap.size + 1 = pb at *
  cases hO : hasO m.kind m with
  | true =>
    rw [hO] at hH
    have HE := (show Hid (encE m = 51) from encE_bad (bad_other hO))
    clear hO hk
    go_wp2_with (first
      | (go_at_call 118; refine hF.mono ?_; rintro e w3 ⟨rfl, rfl⟩)
      | (refine wl_load_w (by rfl) _ _ rfl w.heap.size rfl _ _ hm _ Tryz.underlying72 rfl (by kernel_rfl) ?_)
      | (go_at_call 119; refine hH.mono ?_; rintro e w4 ⟨rfl, hB4⟩))
    exact enc_gave w w4 m 51 _ _ _ _ (hb.below hB4) (he.below hB4) hne (below_and hB3 (Nat.le_refl _) hB4) hpb hpe HE.out (by decide) _ rfl rfl
  | false =>
    rw [hO] at hH
    have hkd := fl_kind hk
    have HK := (show Hid (fl m.kind ≠ []) from hk)
    have HO := (show Hid (hasO m.kind m = false) from hO)
    have HKD := (show Hid (0 ≤ m.kind ∧ m.kind ≤ 2147483647) from hkd)
    clear hO hk hkd
    go_wp2_with (first
      | (go_at_call 118; refine hF.mono ?_; rintro e w3 ⟨rfl, rfl⟩)
      | (refine wl_load_w (by rfl) _ _ rfl w.heap.size rfl _ _ hm _ Tryz.underlying72 rfl (by kernel_rfl) ?_)
      | (go_at_call 119; refine hH.mono ?_; rintro e w4 ⟨rfl, hB4⟩; have hm4 := row_alloc (hm.below hB4) (.cells #[.slice none 0 0, .bool false] 149); have c4 := hm4.cell (j := 0) rfl))
    have hW4 := ws_new w4
    have hBw4 := below_and hB3 (Nat.le_refl _) hB4
    have hs4 := hs.below hBw4
    have hb4 := row_alloc (hb.below hB4) (.cells #[.slice none 0 0, .bool false] 149)
    have he4 := row_alloc (he.below hB4) (.cells #[.slice none 0 0, .bool false] 149)
    have n1 : w.heap.size ≠ w4.heap.size := by have := (hm.below hB4).lt; omega
    have n2 : pb ≠ w4.heap.size := by have := (hb.below hB4).lt; omega
    have n3 : pe ≠ w4.heap.size := by have := (he.below hB4).lt; omega
    clear hB4 hB3 hb he hm hF hH c0 c4
    refine (wnum_any w4 _ w4.heap.size [] m.kind hW4).mono ?_
    rintro e w6 ⟨hu6, hb6, ⟨ho6, rfl⟩ | ⟨ho6, rfl, hW6⟩⟩
    · exact absurd ho6 (by show ¬ okI _ = false; rw [okI_yes HKD.out.1 HKD.out.2]; decide)
    rw [List.nil_append] at hW6
    have hm6 := hm4.ufr hu6 n1 (by decide)
    have hb6' := hb4.ufr hu6 n2 (by decide)
    have he6 := he4.ufr hu6 n3 (by decide)
    clear hm4 hb4 he4 hW4 hu6 hb6 ho6
    have nit : w6.heap.size ≠ w4.heap.size := by have := hW6.lt; omega
    have nit0 : w4.heap.size ≤ w6.heap.size := hW6.bel.size
    generalize w4.heap.size = b at *
    go_wp2_with fail
    have hl0 : (fsB m.kind).size = (fl m.kind).length := fsB_size _
    have hit0 := World.iter_heap w6 (fsB m.kind) 0
    have hbi : Below w6.heap.size w6 (w6.iter (fsB m.kind) 0) := (Below.refl _ w6).alloc (Nat.le_refl _) _
    have HL := (show Hid ((fsB m.kind).size = (fl m.kind).length) from hl0)
    obtain ⟨N, hN⟩ : ∃ N, N = (fl m.kind).length := ⟨_, rfl⟩
    have HN := (show Hid (N = (fl m.kind).length) from hN)
    clear hl0 hN
    go_loopg [] N (fun gf wx => ∃ pos : Nat, wx.heap[w6.heap.size]? = some (.stringIter (fsB m.kind) pos) ∧ WS w4 wx b (cN.wr m.kind ++ wrFs m ((fl m.kind).take pos)) ∧ Row wx w.heap.size 72 (mc m s) ∧ Row wx pb 24 [.slice none 0 0] ∧ Row wx pe 99 [.int .i64 0] ∧
      pos + gf = N ∧ Hid (∀ i ∈ (fl m.kind).take pos, okF m i = true))
    case atStart => exact ⟨0, hit0, by simpa [wrFs] using hW6.below hbi, hm6.below hbi, hb6'.below hbi, he6.below hbi, by omega, fun i hi => by simp at hi⟩
    case round =>
      obtain ⟨pos, hit, hW, hm, hb, he, hfu, hall⟩ := hrel
      by_cases hps : pos < (fsB m.kind).size
      · have hps' : pos < (fl m.kind).length := by rw [← HL.out]; exact hps
        obtain ⟨g', rfl⟩ : ∃ g', gk = g' + 1 := ⟨gk - 1, by have := HN.out; omega⟩
        obtain ⟨i, hi⟩ : ∃ i, (fl m.kind)[pos]? = some i := ⟨_, List.getElem?_eq_getElem hps'⟩
        have h15 : i < 15 := nice_lt (fl_nice _) i (List.mem_of_getElem? hi)
        obtain ⟨hl1, hl2⟩ := fsB_at hps hi
        have hnx : ∀ ty, (Instr.next (.pointer (some ⟨w6.heap.size, 0, none⟩)) true ty).run Tryz.prog wr = _ := fun ty => Lib.run_next_ascii_at wr w6.heap.size (fsB m.kind) pos ty hit hps hl2
        rw [hl1] at hnx
        have hit2 := Lib.iterAt_heap wr w6.heap.size (fsB m.kind) pos (pos + 1) hit
        have hW2 := hW.iter hit hW6.bel.size (pos + 1)
        have hne6 : ∀ k t xs, Row wr k t xs → k ≠ w6.heap.size := fun k t xs h e => by unfold Row at h; rw [e, hit] at h; cases h
        have hm2 := iter_low (s := fsB m.kind) (p := pos + 1) hm (hne6 _ _ _ hm)
        have hb2 := iter_low (s := fsB m.kind) (p := pos + 1) hb (hne6 _ _ _ hb)
        have he2 := iter_low (s := fsB m.kind) (p := pos + 1) he (hne6 _ _ _ he)
        obtain ⟨W, hWd⟩ : ∃ W, wr.iterAt w6.heap.size (fsB m.kind) (pos + 1) = W := ⟨_, rfl⟩
        rw [hWd] at hnx hit2 hW2 hm2 hb2 he2
        have cF' := wfield_any w4 W b _ m s hW2 hs4 h15
        have HI := (show Hid ((fl m.kind)[pos]? = some i) from hi)
        clear hWd hl1 hl2 hi hne6 hps
        go_wp2_with (first
          | (refine wl_load rfl _ _ rfl w.heap.size rfl _ _ hm2 _ Tryz.underlying72 rfl (by kernel_rfl) ?_))
        refine cF'.mono ?_
        rintro e w7 ⟨hu7, hb7, ⟨ho7, rfl⟩ | ⟨ho7, rfl, hW7⟩⟩
        · have HE := (show Hid (encE m = 51) from encE_bad (bad_field (List.mem_of_getElem? HI.out) ho7))
          clear ho7
          go_wp2_with fail
          exact enc_gave w w7 m 51 _ _ _ _ (hb2.ufr hu7 n2 (by decide)) (he2.ufr hu7 n3 (by decide)) hne (below_and hBw4 (Nat.le_refl _) hb7) hpb hpe HE.out (by decide) _ rfl rfl
        · have HO7 := (show Hid (okF m i = true) from ho7)
          clear ho7
          go_wp2_with fail
          go_roundg g'
          case measure => omega
          case rel => exact ⟨pos + 1, ufr_iter hu7 hit2 nit, by rw [take_snoc' _ _ _ HI.out, wrFs_snoc, ← List.append_assoc]; exact hW7, hm2.ufr hu7 n1 (by decide), hb2.ufr hu7 n2 (by decide), he2.ufr hu7 n3 (by decide), by omega, fun j hj => by
            rw [take_snoc' _ _ _ HI.out] at hj
            rcases List.mem_append.1 hj with h | h
            · exact hall.out j h
            · simp at h; subst h; exact HO7.out⟩
      · have hnx : ∀ ty, (Instr.next (.pointer (some ⟨w6.heap.size, 0, none⟩)) true ty).run Tryz.prog wr = _ := fun ty => Lib.run_next_end_at wr w6.heap.size (fsB m.kind) pos ty hit hps
        have hpl : (fl m.kind).length ≤ pos := by rw [← HL.out]; omega
        have hall := hall.out
        rw [List.take_of_length_le hpl] at hall hW
        have hbad := bad_none HK.out HO.out hall
        have HB := (show Hid (badM m = false) from hbad)
        clear hall hpl hps hbad
        obtain ⟨bel, hbb, v, many, lo, hrow, hown, hbyt, hfr, hlo, h1, h2⟩ := hW
        have c1 := hrow.cell (j := 1) rfl
        have c2 := hrow.cell (j := 0) rfl
        cases many with
        | true =>
          have HE := (show Hid (encE m = 53) from encE_many HB.out (h2.1 rfl))
          clear h1 h2
          go_wp2_with fail
          exact enc_gave w wr m 53 _ _ _ _ hb he hne (below_and hBw4 (Nat.le_refl _) bel) hpb hpe HE.out (by decide) _ rfl rfl
        | false =>
          have h3 : lo = byM m := h1 rfl
          have HE := (show Hid (encE m = 0) from encE_ok HB.out (fun h => by have := h2.2 h; cases this))
          clear h1 h2
          have hov : v.oneCell' = true := own_one' hown
          go_wp2_with (first
            | (refine wl_set rfl _ _ _ rfl pb 0 _ rfl rfl _ _ hb (show 0 < 1 by decide) (by kernel_rfl) hov ?_; intro w8 hr8 hg8; have he8 := he.grown hg8 (fun e => hne (by injection e)))
            | (refine wl_set rfl _ _ _ rfl pe 0 _ rfl rfl _ _ he8 (show 0 < 1 by decide) (by kernel_rfl) rfl ?_; intro w9 hr9 hg9))
          have hpb9 := hr8.out.grown hg9 (fun e => hne (by injection e with e; exact e.symm))
          have hB9 := Two.below (below_and hBw4 (Nat.le_refl _) bel) (Two.of hg8 hg9) (Nat.le_refl _) hpb hpe
          have o8 := hown.grown hg8 (fun k hk => by cases hk; exact own_row_ne hb hown (by decide))
          have o9 := o8.grown hg9 (fun k hk => by cases hk; exact own_row_ne he8 o8 (by decide))
          subst h3
          exact enc_back w w9 m pb pe v hpb9 hr9.out hB9 HE.out o9 hbyt (hfr.mono hBw4.size) _ rfl rfl
/-- Encode. -/
theorem encode_any (w : World) (m : PMsg) (s : SV) (hs : SOk Any w m s) : Calls Tryz.prog 84 #[.agg (mc m s).toArray] w (EPost m w) := by
  by_cases hk : fl m.kind = []
  · exact encode_no w m s hs hk
  · exact encode_some w m s hs hk
#print axioms encode_any
end
section
open Go.RowKit Oct
/-- What a message signs. -/
def seaB (m : PMsg) : List Int := encB (wsM m [])
def seaE (m : PMsg) : Int := encE (wsM m [])
def seaT (m : PMsg) (i : Int) : List Int := if seaE m = 0 then textL (repL i) (sL (domS m)) [seaB m] else []
set_option maxRecDepth 10000 in
set_option maxHeartbeats 1000000 in
theorem sealBody_any (w : World) (m : PMsg) (s : SV) (hs : SOk Any w m s) : Calls Tryz.prog 55 #[.agg (mc m s).toArray] w fun e w' => ∃ v, e = .returned (.tuple #[v, .int .i64 (seaE m)]) ∧ Own w' 5 v (bc (seaB m)) ∧ Byt (seaB m) ∧ Fr w.heap.size v ∧ Below w.heap.size w w' := by
  obtain ⟨w1, hw1, r1, B1⟩ := boxM w m s
  have hC := withSig_any Any w1 m s (.slice none 0 0) [] (hs.below B1) (RT.nil _ _)
  unfold seaB seaE
  go_enter Tryz.func55, Tryz.ntmps55
  go_upto_region 1 with fail
  rw [← hw1]
  clear hw1
  go_wp2_with (first
    | (refine wl_load rfl _ _ rfl w.heap.size rfl _ _ r1 _ Tryz.underlying72 rfl (by kernel_rfl) ?_)
    | (go_at_call 85; refine hC.mono ?_; rintro e w2 ⟨s2, rfl, hs2, hb2⟩; have hE := encode_any w2 (wsM m []) s2 (hs2.mv (Nat.le_refl _) Mv.any))
    | (go_at_call 84; refine hE.mono ?_; rintro e w3 ⟨v3, rfl, o3, b3, f3, hb3⟩))
  go_ret2
  have B2 := below_and B1 (Nat.le_refl _) hb2
  exact ⟨_, rfl, o3, b3, f3.mono B2.size, below_and B2 (Nat.le_refl _) hb3⟩
end
section
open Go.RowKit Oct
theorem domS_size (m : PMsg) : (domS m).size ≤ 4000000 := by unfold domS; split <;> decide
theorem seaB_len (m : PMsg) : (seaB m).length ≤ 1048576 := by
  unfold seaB encB
  split
  · rename_i h
    unfold encE at h
    split at h
    · cases h
    · split at h
      · cases h
      · omega
  · simp
theorem rdlS_one (u : World) (v : Value) (l : List Int) (h : Rd u v l) : Rdl (u.alloc (.cells #[v] 24)) (.slice (some ⟨u.heap.size, 0, none⟩) 1 1) [l] :=
  ⟨[v], rdv_els u [v] 24 (by simp) (by simp), h.below (below_alloc _ _), trivial⟩
end
end Go.Proofs.YtgbfmccecnfooaaGreatDoor
