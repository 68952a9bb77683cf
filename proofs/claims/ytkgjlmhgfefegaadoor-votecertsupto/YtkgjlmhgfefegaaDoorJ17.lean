/- From what came in to what a walk wants: requests, messages. -/
import Derived.Test.YtkgjlmhgfefegaaDoorTAlive
import Derived.Test.YtkgjlmhgfefegaaDoorJ02
import Derived.Test.YtkgjlmhgfefegaaDoorJ06
import Derived.Test.YtkgjlmhgfefegaaDoorJ16
import Derived.Test.YtkgjlmhgfefegaaDoorMem
import Derived.ProofKit
import Derived.OpenShut
import Derived.ShutString
import Derived.ChangeOld
import Derived.SizedLaws
import Derived.Test.YtkgjlmhgfefegaaDoorRows
import Derived.Test.YtkgjlmhgfefegaaDoorLst
import Derived.Test.YtkgjlmhgfefegaaDoorJ01
section
set_option linter.unusedVariables false
set_option linter.unusedSimpArgs false
namespace Go.Proofs.YtkgjlmhgfefegaaDoor
open Go.RowKit Oct Sha Stb

set_option maxRecDepth 10000 in
set_option maxHeartbeats 4000000 in
theorem certs_any (w : World) (k x y s : Int) (v : Value) (l : List Int) (vv : Value) (ys : List PVote) (n : Int) (hv : Rd w v l) (hy : RL RVote 2 Any w vv ys) (hl : l.length ≤ 1048576) (hz : szL 32 szV ys) (hT : Tab w) :
    Calls Tryd.prog 3 #[.agg #[.int .i64 k, .int .i64 x, .int .i64 y, .int .i64 s, v], vv, .int .i64 n] w fun e w' => e = .returned (.bool true) ∧ Below w.heap.size w w' := by
  have le := Nat.le_refl w.heap.size
  obtain ⟨ao, cap, rfl, hcap⟩ := hv.form
  have hform := hy.form
  obtain ⟨av, cv, rfl, _⟩ := hform
  obtain ⟨w0, hw0⟩ : ∃ w0, w0 = w.alloc (.cells #[.int .i64 k, .int .i64 x, .int .i64 y, .int .i64 s, .slice ao l.length cap] 26) := ⟨_, rfl⟩
  have x0 : Row w0 w.heap.size 26 [.int .i64 k, .int .i64 x, .int .i64 y, .int .i64 s, .slice ao l.length cap] := by rw [hw0]; exact Row.new w _ _
  have B0 : Below w.heap.size w w0 := by rw [hw0]; exact below_alloc _ _
  have HY := (show Hid (∀ u, Below w.heap.size w u → RL RVote 2 Any u (.slice av ys.length cv) ys) from fun u hu => hy.mv mov_vote hu.size (Mv.below hu))
  have HV := (show Hid (∀ u, Below w.heap.size w u → Rd u (.slice ao l.length cap) l) from fun u hu => hv.below hu)
  have HZ := (show Hid (szL 32 szV ys) from hz)
  have HTb := (show Hid (Tab w) from hT)
  have hlm : (l.length : Int) ≤ 1048576 := by omega
  have HLB := (show Hid (Byt l) from hv.1)
  clear hy hv hz hT
  obtain ⟨N, hN⟩ : ∃ N, N = ys.length := ⟨_, rfl⟩
  rw [← hN] at HY ⊢
  clear hN
  go_enter Tryd.func3, Tryd.ntmps3
  go_upto_region 1 with fail
  rw [← hw0]
  clear hw0
  go_upto_region 3 with (go_at_call 4; refine (alive_any w0 (HTb.out.below B0)).mono ?_; rintro e w1 ⟨rfl, hb1⟩)
  have B1 := below_and B0 le hb1
  have x1 := x0.below hb1
  have hC := copyVotes_any w1 _ ys (HY.out w1 B1) HZ.out
  clear hb1 x0 B0
  go_upto_region 4 with (go_at_call 5; refine hC.mono ?_; rintro e w2 ⟨v2, rfl, r2, hb2⟩)
  have B2 := below_and B1 le hb2
  have x2 := x1.below hb2
  obtain ⟨a2, c2, hv2, _⟩ := r2.form
  have HO2 := (show Hid (∀ u, Below w2.heap.size w2 u → RL RVote 2 Any u v2 ys) from fun u hu => (r2.mv (G' := Any) mov_vote (Nat.le_refl _) (fun _ _ _ => ⟨rfl, trivial⟩)).mv mov_vote hu.size (Mv.below hu))
  obtain ⟨n2, hn2⟩ : ∃ n2, n2 = ys.length := ⟨_, rfl⟩
  rw [← hn2] at hv2
  clear hb2 x1 B1 hC r2 hn2
  subst hv2
  have p0 := x2.cell (j := 0) rfl
  have p1 := x2.cell (j := 1) rfl
  have p2 := x2.cell (j := 2) rfl
  have p3 := x2.cell (j := 3) rfl
  have p4 := x2.cell (j := 4) rfl
  have SK := (show Hid (∀ u : World, Below w2.heap.size w2 u → u.cell? ⟨w.heap.size, 0, none⟩ = some (.int .i64 k) ∧ u.cell? ⟨w.heap.size, 1, none⟩ = some (.int .i64 x) ∧ u.cell? ⟨w.heap.size, 2, none⟩ = some (.int .i64 y) ∧ u.cell? ⟨w.heap.size, 3, none⟩ = some (.int .i64 s) ∧ u.cell? ⟨w.heap.size, 4, none⟩ = some (.slice ao l.length cap)) from fun u hu => ⟨keepC hu p0, keepC hu p1, keepC hu p2, keepC hu p3, keepC hu p4⟩)
  have hs2 := HV.out w2 B2
  obtain ⟨CC, hCC⟩ : ∃ CC, CC = certL (rightV k x y s l) n ys := ⟨_, rfl⟩
  have HCt := (show Hid (∀ u v', Below w2.heap.size w2 u → Rd u v' l → Calls Tryd.prog 6 #[.int .i64 k, .agg #[.int .i64 x, .int .i64 y], .int .i64 s, v', .slice a2 n2 c2, .int .i64 n] u fun e w' => e = .returned (.bool CC) ∧ Below u.heap.size u w') from fun u v' hu hr => by
    have := vCert_any u k x y s v' l n (.slice a2 n2 c2) ys hr (by omega) (HO2.out u hu) (HTb.out.below (below_and B2 le hu))
    rwa [← hCC] at this)
  have HCr := (show Hid (∀ u, Below w.heap.size w u → Calls Tryd.prog 8 #[.int .i64 k, .agg #[.int .i64 x, .int .i64 y], .int .i64 s, .slice ao l.length cap, .slice av N cv, .int .i64 n] u fun e w' => e = .returned (.bool CC) ∧ Below u.heap.size u w') from fun u hu => by
    have := refCert_any u k x y s _ l n _ ys (HV.out u hu) (by omega) (HY.out u hu)
    rwa [← hCC] at this)
  have hln : ([] : List Int).length + l.length ≤ 140737488355328 := by simp only [List.length_nil]; omega
  clear hCC
  go_region_held3 (fun u => u.cell? ⟨w.heap.size, 0, none⟩ = some (.int .i64 k) ∧ u.cell? ⟨w.heap.size, 1, none⟩ = some (.int .i64 x) ∧ u.cell? ⟨w.heap.size, 2, none⟩ = some (.int .i64 y) ∧ u.cell? ⟨w.heap.size, 3, none⟩ = some (.int .i64 s) ∧ u.cell? ⟨w.heap.size, 4, none⟩ = some (.slice ao l.length cap))
    (first | exact SK.out _ (by assumption) | go_keep)
    (first
      | (refine step_bytes (by rfl) _ _ (by rfl) (.slice (some ⟨w2.heap.size, 0, none⟩) 0 0) [] (by rfl) (own_zero w2 5).drew (.slice ao l.length cap) l (by rfl) (hs2.below (below_alloc w2 _)).2.drew hln ?_; intro v6 w6 happ6; have hb6 : Below w2.heap.size w2 w6 := ((below_alloc w2 _).drew).trans (happ6.below (fr_at _ _ _ _ (Nat.le_refl _)) (by simp)); have hR6 : Rd w6 v6 l := Own.rd (l := l) (by simpa using happ6.own) HLB.out; obtain ⟨ao6, n6, c6, rfl⟩ := own_slice happ6.own)
      | (go_at_call 6; refine (HCt.out w6 _ hb6 hR6).mono ?_; rintro e w8 ⟨rfl, hb8⟩; have hb28 := below_and hb6 (Nat.le_refl _) hb8))
  have hS8 := vSort_any w8 _ ys (HO2.out w8 hb28) HZ.out
  have B8 := below_and B2 le hb28
  clear hR6 happ6 hb6 hb8 HCt
  go_upto_region 6 with (go_at_call 7; refine hS8.mono ?_; rintro e w9 ⟨v9, zs, rfl, r9, s9, m9, hb9⟩)
  have B9 := below_and B8 le hb9
  have hb29 := below_and hb28 (Nat.le_refl _) hb9
  have HR9 := (show Hid (∀ u, Below w9.heap.size w9 u → RL RVote 2 Any u v9 zs) from fun u hu => (r9.mv (G' := Any) mov_vote (Nat.le_refl _) (fun _ _ _ => ⟨rfl, trivial⟩)).mv mov_vote hu.size (Mv.below hu))
  obtain ⟨q0, q1, q2, q3, q4⟩ := SK.out w9 hb29
  have hC9 := HCr.out w9 B9
  have HSM := (show Hid (Srt ks zs ∧ Sam ks ys zs) from ⟨s9, m9⟩)
  have hcc : (CC == CC) = true := by simp
  have hfo9 : ∃ a9 n9 c9, v9 = .slice a9 n9 c9 := by obtain ⟨a, c, e, _⟩ := r9.form; exact ⟨a, _, c, e⟩
  clear hS8 s9 m9 r9 p0 p1 p2 p3 p4 SK x2 hs2
  obtain ⟨a9, n9, c9, rfl⟩ := hfo9
  have HSr := (show Hid (∀ u, Below w.heap.size w u → Calls Tryd.prog 10 #[.slice av N cv] u fun e w' => ∃ v', e = .returned v' ∧ RL RVote 2 Any w' v' zs ∧ Below u.heap.size u w') from fun u hu => (refSort_any u _ ys (HY.out u hu) HZ.out).mono fun e w' ⟨v', zs', e1, e2, e3, e4, e5⟩ => by
    have hEq : zs = zs' := Stb.uniq HSM.out.1 e3 ⟨e4.1.trans HSM.out.2.1.symm, fun c => (e4.2 c).trans (HSM.out.2.2 c).symm⟩
    rw [← hEq] at e2
    exact ⟨v', e1, e2, e5⟩)
  have HSa := (show Hid (∀ u a b ws, RL RVote 2 Any u a ws → RL RVote 2 Any u b ws → Calls Tryd.prog 9 #[a, b] u fun e w' => e = .returned (.bool true) ∧ Below u.heap.size u w') from fun u a b ws h1 h2 => sameVotes_eq u a b ws h1 h2)
  go_wp2_with (first
    | (go_at_call 8; refine hC9.mono ?_; rintro e w10 ⟨rfl, hb10⟩; have B10 := below_and B9 le hb10; have hSo := HSr.out w10 B10)
    | (go_at_call 10; refine hSo.mono ?_; rintro e w11 ⟨v11, rfl, r11, hb11⟩; have b911 := below_and hb10 (Nat.le_refl _) hb11; have hsame := HSa.out w11 _ _ zs (HR9.out w11 b911) r11; have bz := b911)
    | (go_at_call 9; refine hsame.mono ?_; rintro e w12 ⟨rfl, hb12⟩; have bz := below_and bz (Nat.le_refl _) hb12; have hsame := HSa.out w12 _ _ ys (HO2.out w12 (below_and hb29 (Nat.le_refl _) bz)) (HY.out w12 (below_and B9 le bz))))
  go_ret
  exact ⟨rfl, below_and B9 le bz⟩
end Go.Proofs.YtkgjlmhgfefegaaDoor
end

section
namespace Go.Proofs.YtkgjlmhgfefegaaDoor
open Go.ChangeShapes Go.WideShapes Go.ChangeAt Go.RowKit Oct

theorem wf_u8 {n : Int} (h : (Lit.int .u8 n).wf = true) : 0 ≤ n ∧ n ≤ 255 := bounds_u8 h

/-- What a slice of bytes reads as, and its datum. -/
def IsBytes {H : Type} (d : DataW H) (l : List Int) : Prop := (d = .nil ∧ l = []) ∨ ∃ spare, d = .slice (lits .u8 l) spare

theorem open_bytes_at {H : Type} {enc : TypeId × Value → H} {P : Program} {w : World} {base fuel : Nat} {held : Bool} {t e : TypeId} (ht : P.underlying t = some (.slice e)) (he : P.underlying e = some (.int .u8)) (hc : P.cellsOf e = 1)
    {v : Value} {x : DataW H × List MemPlace} (hf : DataW.trod enc P w base (fun _ => true) held fuel t [v] = some x) : ∃ l, Rd w v l ∧ IsBytes x.1 l := by
  rcases open_ints ht he hc hf with ⟨hcs, hx⟩ | ⟨a, len, cap, zs, hcs, _, hl, hm, hz, hx, hcell, hwz⟩
  · simp only [List.cons.injEq, and_true] at hcs
    subst hcs
    subst hx
    exact ⟨[], ⟨Byt.nil, none, 0, rfl, Nat.le_refl _, Nat.zero_le _, fun _ => ⟨rfl, rfl⟩, fun a ha => by cases ha⟩, .inl ⟨rfl, rfl⟩⟩
  · simp only [List.cons.injEq, and_true] at hcs
    subst hcs
    subst hx
    simp only [if_true] at hz
    have hlen : (bc (zs.take len)).length = len := by rw [bc_len, List.length_take]; omega
    refine ⟨zs.take len, ⟨fun y hy => wf_u8 (hwz y (List.mem_of_mem_take hy)), some a, cap, by rw [hlen], by rw [hlen]; exact hl, hm, fun e => (by cases e), fun b hb j u hu => ?_⟩, .inr ⟨_, rfl⟩⟩
    cases hb
    have hj : j < len := by
      rcases Nat.lt_or_ge j len with h | h
      · exact h
      · rw [List.getElem?_eq_none (by omega)] at hu; cases hu
    rw [hcell j (by omega)]
    rw [bc_getD _ _ (by rw [List.length_take]; omega)] at hu
    rw [← hu]
    simp [List.getD, hj]
theorem open_bytes {H : Type} {enc : TypeId × Value → H} {P : Program} {w : World} {base : Nat} {held : Bool} {t e : TypeId} (ht : P.underlying t = some (.slice e)) (he : P.underlying e = some (.int .u8)) (hc : P.cellsOf e = 1)
    {a : Option Addr} {len cap : Nat} {d : DataW H} {p : List MemPlace} (h : DataW.Trod enc P w base (fun _ => true) held t (.slice a len cap) d p) :
    ∃ l, Rd w (.slice a len cap) l ∧ IsBytes d l := by
  obtain ⟨fuel, hf⟩ := h
  have := open_bytes_at ht he hc (v := .slice a len cap) (by simpa [Value.cells] using hf)
  simpa using this

/-- A list of texts, and its datum. -/
def IsBytess {H : Type} (d : DataW H) (ll : List (List Int)) : Prop := (d = .nil ∧ ll = []) ∨ ∃ ds spare, d = .slice ds spare ∧ All2 IsBytes ds ll

theorem open_bytess_at {H : Type} {enc : TypeId × Value → H} {P : Program} {w : World} {base fuel : Nat} {held : Bool} {t u e : TypeId} (ht : P.underlying t = some (.slice u)) (hu : P.underlying u = some (.slice e)) (he : P.underlying e = some (.int .u8))
    (hcu : P.cellsOf u = 1) (hce : P.cellsOf e = 1) {v : Value} {x : DataW H × List MemPlace} (hf : DataW.trod enc P w base (fun _ => true) held fuel t [v] = some x) : ∃ ll, Rdl w v ll ∧ IsBytess x.1 ll := by
  rcases DataW.trod_slice ht hf with ⟨hcs, hx⟩ | ⟨a, len, cap, elems, rest, n, _, hcs, hx, _, hl, hm, hlen, hel, _, _⟩
  · simp only [List.cons.injEq, and_true] at hcs
    subst hcs
    subst hx
    exact ⟨[], ⟨[], ⟨none, 0, rfl, Nat.le_refl _, Nat.zero_le _, fun _ => ⟨rfl, rfl⟩, fun a ha => by cases ha⟩, trivial⟩, .inl ⟨rfl, rfl⟩⟩
  · simp only [List.cons.injEq, and_true] at hcs
    subst hcs
    subst hx
    rw [hcu] at hel
    have each : ∀ i, i < len → ∃ c l y, w.cell? (a.add i) = some c ∧ elems[i]? = some y ∧ Rd w c l ∧ IsBytes y.1 l := fun i hi => by
      have h1 := hel i hi
      rw [List.getElem?_eq_getElem (by omega), Nat.mul_one] at h1
      obtain ⟨cs, hc1, hc2⟩ := Option.bind_eq_some_iff.1 h1
      obtain ⟨c, rfl⟩ : ∃ c, cs = [c] := by
        have hlen1 := (World.cells?_some hc1).2.1
        match cs, hlen1 with
        | [c], _ => exact ⟨c, rfl⟩
      obtain ⟨l, hl1, hl2⟩ := open_bytes_at hu he hce hc2
      exact ⟨c, l, _, Go.ChangeShapes.cell_of_cells?_one hc1, List.getElem?_eq_getElem (by omega), hl1, hl2⟩
    obtain ⟨vs, ll, hv1, hv2, hv3⟩ : ∃ (vs : List Value) (ll : List (List Int)), vs.length = len ∧ ll.length = len ∧ ∀ i c l, vs[i]? = some c → ll[i]? = some l → w.cell? (a.add i) = some c ∧ Rd w c l ∧ ∀ y, elems[i]? = some y → IsBytes y.1 l := by
      clear hm hl hel hf
      have key : ∀ k, k ≤ len → ∃ (vs : List Value) (ll : List (List Int)), vs.length = k ∧ ll.length = k ∧ ∀ i c l, vs[i]? = some c → ll[i]? = some l → w.cell? (a.add i) = some c ∧ Rd w c l ∧ ∀ y, elems[i]? = some y → IsBytes y.1 l := by
        intro k
        induction k with
        | zero => exact fun _ => ⟨[], [], rfl, rfl, fun i c l h => by simp at h⟩
        | succ k ih =>
          intro hk
          obtain ⟨vs, ll, g1, g2, g3⟩ := ih (by omega)
          obtain ⟨c, l, y, e1, e2, e3, e4⟩ := each k (by omega)
          refine ⟨vs ++ [c], ll ++ [l], by simp [g1], by simp [g2], fun i c' l' hc' hl' => ?_⟩
          rcases Nat.lt_trichotomy i k with h | h | h
          · rw [List.getElem?_append_left (by omega)] at hc' hl'
            exact g3 i c' l' hc' hl'
          · subst h
            rw [List.getElem?_append_right (by omega), g1] at hc'
            rw [List.getElem?_append_right (by omega), g2] at hl'
            simp at hc' hl'
            subst hc' hl'
            exact ⟨e1, e3, fun y' hy' => by rw [e2] at hy'; cases hy'; exact e4⟩
          · rw [List.getElem?_eq_none (by simp; omega)] at hc'; cases hc'
      exact key len (Nat.le_refl _)
    refine ⟨ll, ⟨vs, ⟨some a, cap, by rw [hv1], by rw [hv1]; exact hl, hm, fun e => (by cases e), fun b hb j u hju => ?_⟩, All2.of_get (by omega) fun i c l hc hl => (hv3 i c l hc hl).2.1⟩, .inr ⟨_, _, rfl, All2.of_get (by simp; omega) fun i d l hd hl => ?_⟩⟩
    · cases hb
      have hj : j < vs.length := by
        rcases Nat.lt_or_ge j vs.length with h | h
        · exact h
        · rw [List.getElem?_eq_none h] at hju; cases hju
      exact (hv3 j u _ hju (List.getElem?_eq_getElem (by omega))).1
    · have hi : i < ll.length := by
        rcases Nat.lt_or_ge i ll.length with h | h
        · exact h
        · rw [List.getElem?_eq_none h] at hl; cases hl
      have he' : elems[i]? = some (elems[i]'(by omega)) := List.getElem?_eq_getElem (by omega)
      have := (hv3 i _ l (List.getElem?_eq_getElem (by omega)) hl).2.2 _ he'
      rw [List.getElem?_map, he'] at hd
      simp at hd
      rw [← hd]
      exact this
theorem open_bytess {H : Type} {enc : TypeId × Value → H} {P : Program} {w : World} {base : Nat} {held : Bool} {t u e : TypeId} (ht : P.underlying t = some (.slice u)) (hu : P.underlying u = some (.slice e)) (he : P.underlying e = some (.int .u8))
    (hcu : P.cellsOf u = 1) (hce : P.cellsOf e = 1) {a : Option Addr} {len cap : Nat} {d : DataW H} {p : List MemPlace} (h : DataW.Trod enc P w base (fun _ => true) held t (.slice a len cap) d p) :
    ∃ ll, Rdl w (.slice a len cap) ll ∧ IsBytess d ll := by
  obtain ⟨fuel, hf⟩ := h
  have := open_bytess_at ht hu he hcu hce (v := .slice a len cap) (by simpa [Value.cells] using hf)
  simpa using this

/-- An array of two numbers. -/
theorem open_ints2 {H : Type} {enc : TypeId × Value → H} {P : Program} {w : World} {base b0 : Nat} {r : Reach} {held : Bool} {t e : TypeId} (ht : P.underlying t = some (.array 2 e)) (he : P.underlying e = some (.int .i64)) (hc : P.cellsOf e = 1) (hct : P.cellsOf t = 2)
    {v : Value} {d : DataW H} {p : List MemPlace} (hv : Value.okWide P w r b0 t v) (h : DataW.Trod enc P w base (fun _ => true) held t v d p) : ∃ a b, v = .agg #[.int .i64 a, .int .i64 b] := by
  simp only [Value.okWide, ht] at hv
  obtain ⟨cs, rfl, hsz, _⟩ := hv
  rw [hct] at hsz
  obtain ⟨c0, c1, rfl⟩ : ∃ c0 c1, cs = #[c0, c1] := by
    obtain ⟨l⟩ := cs
    match l, hsz with
    | [c0, c1], _ => exact ⟨c0, c1, rfl⟩
  obtain ⟨fuel, hf⟩ := h
  obtain ⟨xs, m, _, _, _, hx, hel⟩ := DataW.trod_array ht hf
  have h0 := hel 0 (by omega)
  have h1 := hel 1 (by omega)
  rw [hc] at h0 h1
  simp only [Value.cells] at h0 h1
  rw [List.getElem?_eq_getElem (by omega)] at h0 h1
  obtain ⟨a, e0, _⟩ := DataW.trod_int he (by simpa using h0)
  obtain ⟨b, e1, _⟩ := DataW.trod_int he (by simpa using h1)
  simp at e0 e1
  exact ⟨a, b, by rw [e0, e1]⟩

theorem IsBytes.reach {H : Type} {P : Program} {ts : List TypeId} {ds : List (DataW H)} (h : (DataW.weightsEach P ts ds).all (· ≤ reachBytes) = true) {j : Nat} {t e : TypeId} {d : DataW H} {l : List Int} (hd : IsBytes d l)
    (ht : ts[j]? = some t) (hj : ds[j]? = some d) (hu : P.underlying t = some (.slice e)) (hb : P.bytesOf e = 1) : l.length ≤ 140737488351232 := by
  rcases hd with ⟨_, rfl⟩ | ⟨sp, rfl⟩
  · simp
  · have := sized_slice h ht hj hu
    rw [hb] at this
    simp only [lits, List.length_map, reachBytes] at this
    omega
#print axioms open_bytes
end Go.Proofs.YtkgjlmhgfefegaaDoor
end

section
namespace Go.Proofs.YtkgjlmhgfefegaaDoor
open Go.ChangeShapes Go.RowKit Oct

theorem bulk_one {H : Type} (d : DataW H) : 1 ≤ Rows.uptoBulk d := by
  cases d with
  | lit l => cases l <;> simp [Rows.uptoBulk]
  | nil => simp [Rows.uptoBulk]
  | ptr d => simp [Rows.uptoBulk]
  | slice elems spare => simp [Rows.uptoBulk]
  | agg parts => simp [Rows.uptoBulk]
  | iface t d => simp [Rows.uptoBulk]
  | map entries => simp [Rows.uptoBulk]
  | held h => simp [Rows.uptoBulk]
theorem bulk_part {H : Type} {d : DataW H} {l : List (DataW H)} (h : d ∈ l) : Rows.uptoBulk d ≤ Rows.uptoBulkAll l := by
  induction l with
  | nil => cases h
  | cons x r ih =>
    simp only [Rows.uptoBulkAll]
    cases List.mem_cons.1 h with
    | inl e => subst e; omega
    | inr e => have := ih e; omega
theorem bulk_len {H : Type} (l : List (DataW H)) : l.length ≤ Rows.uptoBulkAll l := by
  induction l with
  | nil => simp [Rows.uptoBulkAll]
  | cons x r ih => have := bulk_one x; simp only [Rows.uptoBulkAll, List.length_cons]; omega
theorem bulk_bytes {H : Type} {d : DataW H} {l : List Int} (h : IsBytes d l) : l.length + 1 ≤ Rows.uptoBulk d := by
  rcases h with ⟨rfl, rfl⟩ | ⟨sp, rfl⟩
  · simp [Rows.uptoBulk]
  · have h1 := bulk_len (H := H) (lits .u8 l)
    simp only [lits, List.length_map] at h1
    simp only [Rows.uptoBulk, lits]
    omega
theorem bulk_all {H : Type} {l : List (DataW H)} (hk : Rows.uptoSmall H l = true) : Rows.uptoBulkAll l ≤ 1048576 := of_decide_eq_true hk
/-- Each of the arguments. -/
theorem bulk_bytes_in {H : Type} {l : List (DataW H)} (hk : Rows.uptoSmall H l = true) {d : DataW H} {b : List Int} (h : IsBytes d b) (hd : d ∈ l) : b.length ≤ 1048576 := by
  have h1 := bulk_all hk
  have h2 := bulk_part hd
  have h3 := bulk_bytes h
  omega
theorem bulk_list {H : Type} : ∀ {ds : List (DataW H)} {ll : List (List Int)}, All2 IsBytes ds ll → tot ll ≤ Rows.uptoBulkAll ds
  | [], [], _ => Nat.zero_le _
  | d :: ds, l :: ll, h => by
    have h1 := bulk_bytes h.1
    have h2 := bulk_list h.2
    simp only [tot, Rows.uptoBulkAll]
    omega
  | [], _ :: _, h => h.elim
  | _ :: _, [], h => h.elim
theorem bulk_bytess {H : Type} {d : DataW H} {ll : List (List Int)} (h : IsBytess d ll) : tot ll + 1 ≤ Rows.uptoBulk d := by
  rcases h with ⟨rfl, rfl⟩ | ⟨ds, sp, rfl, h⟩
  · simp [Rows.uptoBulk, tot]
  · have := bulk_list h
    simp only [Rows.uptoBulk]
    omega
theorem bulk_bytess_in {H : Type} {l : List (DataW H)} (hk : Rows.uptoSmall H l = true) {d : DataW H} {b : List (List Int)} (h : IsBytess d b) (hd : d ∈ l) : tot b ≤ 1048576 := by
  have h1 := bulk_all hk
  have h2 := bulk_part hd
  have h3 := bulk_bytess h
  omega
end Go.Proofs.YtkgjlmhgfefegaaDoor
end

section
namespace Go.Proofs.YtkgjlmhgfefegaaDoor
open Go.ChangeShapes Go.WideShapes Go.ChangeAt Go.RowKit Oct

/-- How much a thing is. -/
def bT (l : List Int) : Nat := l.length + 1
def bS {α : Type} (f : α → Nat) : List α → Nat
  | [] => 0
  | y :: ys => f y + bS f ys
def bL {α : Type} (f : α → Nat) (ys : List α) : Nat := bS f ys + 1
def bV (x : PVote) : Nat := 2 + bT x.2
def bQ (x : PReq) : Nat := 3 + bT x.2.2.1 + bT x.2.2.2
def bP (x : PPrep) : Nat := 5 + bQ x.2.2.1 + bL bV x.2.2.2
def bR (x : PRep) : Nat := 6 + bT x.2.2.2.1 + bL bV x.2.2.2.2.1 + bL bP x.2.2.2.2.2.1 + bT x.2.2.2.2.2.2
def bM (m : PMsg) : Nat := 10 + bQ m.req + bQ m.oth + bT m.data + bT m.sig + bL bV m.cert + bL bV m.votes + bL (fun _ => 1) m.order + bL bQ m.picks + bL bR m.reps

/-- What reads as a thing of type t is one by R. -/
def Opn {H : Type} (enc : TypeId × Value → H) (P : Program) (w : World) (base : Nat) (held : Bool) (t : TypeId) {α : Type} (R : List Value → α → Prop) (bk : α → Nat) (sz : α → Prop) : Prop :=
  ∀ fuel cs x, DataW.trod enc P w base (fun _ => true) held fuel t cs = some x → ∃ y, R cs y ∧ bk y ≤ Rows.uptoBulk x.1 ∧ ((∀ n ∈ x.1.weights P t, n ≤ reachBytes) → sz y)

theorem fld {H : Type} {enc : TypeId × Value → H} {P : Program} {w : World} {base n : Nat} {held : Bool} {fs : Array Field} {cs : List Value} {xs : List (DataW H × List MemPlace)}
    (hf : ∀ (i : Nat) (f : Field), fs[i]? = some f → DataW.trod enc P w base (fun _ => true) held n f.type ((cs.drop f.offset).take (P.cellsOf f.type)) = xs[i]?)
    (i : Nat) {f : Field} (e : fs[i]? = some f) {T off k : Nat} (hT : f.type = T) (ho : f.offset = off) (hc : P.cellsOf T = k) {cs' : List Value} {x' : DataW H × List MemPlace} (hcs : (cs.drop off).take k = cs') (hx : xs[i]? = some x') :
    DataW.trod enc P w base (fun _ => true) held n T cs' = some x' := by
  have := hf i f e
  rw [hT, ho, hc, hcs, hx] at this
  exact this

theorem add_add_plain (b o m j : Nat) : ((⟨b, o, none⟩ : Addr).add m).add j = ⟨b, o + m + j, none⟩ := by
  unfold Addr.add
  by_cases h1 : m = 0 <;> by_cases h2 : j = 0 <;> simp [h1, h2]
theorem of2 {α : Type} {l : List α} (h : l.length = 2) : ∃ c0 c1, l = [c0, c1] := by match l, h with | [c0, c1], _ => exact ⟨c0, c1, rfl⟩
theorem of4 {α : Type} {l : List α} (h : l.length = 4) : ∃ c0 c1 c2 c3, l = [c0, c1, c2, c3] := by match l, h with | [c0, c1, c2, c3], _ => exact ⟨c0, c1, c2, c3, rfl⟩
theorem of7 {α : Type} {l : List α} (h : l.length = 7) : ∃ c0 c1 c2 c3 c4 c5 c6, l = [c0, c1, c2, c3, c4, c5, c6] := by match l, h with | [c0, c1, c2, c3, c4, c5, c6], _ => exact ⟨c0, c1, c2, c3, c4, c5, c6, rfl⟩
theorem of8 {α : Type} {l : List α} (h : l.length = 8) : ∃ c0 c1 c2 c3 c4 c5 c6 c7, l = [c0, c1, c2, c3, c4, c5, c6, c7] := by match l, h with | [c0, c1, c2, c3, c4, c5, c6, c7], _ => exact ⟨c0, c1, c2, c3, c4, c5, c6, c7, rfl⟩
theorem of16 {α : Type} {l : List α} (h : l.length = 16) : ∃ c0 c1 c2 c3 c4 c5 c6 c7 c8 c9 c10 c11 c12 c13 c14 c15, l = [c0, c1, c2, c3, c4, c5, c6, c7, c8, c9, c10, c11, c12, c13, c14, c15] := by match l, h with | [c0, c1, c2, c3, c4, c5, c6, c7, c8, c9, c10, c11, c12, c13, c14, c15], _ => exact ⟨c0, c1, c2, c3, c4, c5, c6, c7, c8, c9, c10, c11, c12, c13, c14, c15, rfl⟩
theorem of23 {α : Type} {l : List α} (h : l.length = 23) : ∃ c0 c1 c2 c3 c4 c5 c6 c7 c8 c9 c10 c11 c12 c13 c14 c15 c16 c17 c18 c19 c20 c21 c22, l = [c0, c1, c2, c3, c4, c5, c6, c7, c8, c9, c10, c11, c12, c13, c14, c15, c16, c17, c18, c19, c20, c21, c22] := by match l, h with | [c0, c1, c2, c3, c4, c5, c6, c7, c8, c9, c10, c11, c12, c13, c14, c15, c16, c17, c18, c19, c20, c21, c22], _ => exact ⟨c0, c1, c2, c3, c4, c5, c6, c7, c8, c9, c10, c11, c12, c13, c14, c15, c16, c17, c18, c19, c20, c21, c22, rfl⟩

theorem opn_text {H : Type} {enc : TypeId × Value → H} {w : World} {base : Nat} {held : Bool} : Opn enc Tryd.prog w base held 24 (fun cs l => ∃ v, cs = [v] ∧ RT Any w v l) bT szT := by
  intro fuel cs x h
  obtain ⟨v, rfl⟩ : ∃ v, cs = [v] := by
    rcases DataW.trod_slice Tryd.underlying24 h with ⟨e, _⟩ | ⟨a, len, cap, elems, rest, n, _, e, _⟩ <;> exact ⟨_, e⟩
  obtain ⟨l, h1, h2⟩ := open_bytes_at Tryd.underlying24 Tryd.underlying5 (by kernel_rfl) h
  refine ⟨l, ⟨v, rfl, h1, fun _ _ _ => trivial⟩, bulk_bytes h2, fun hn => ?_⟩
  rcases h2 with ⟨_, rfl⟩ | ⟨sp, e⟩
  · exact Nat.zero_le _
  · rw [e] at hn
    have := hn ((lits .u8 l).length * Tryd.prog.bytesOf 5 + sp.length * Tryd.prog.bytesOf 5) (by simp only [DataW.weights, Tryd.underlying24, Nat.add_mul]; exact .head _)
    rw [show Tryd.prog.bytesOf 5 = 1 by kernel_rfl] at this
    simp only [lits, List.length_map, reachBytes] at this
    show l.length ≤ _
    omega

theorem weights_in {H : Type} {P : Program} {e : TypeId} {n : Nat} : ∀ {ds : List (DataW H)} {d : DataW H}, d ∈ ds → n ∈ d.weights P e → n ∈ DataW.weightsAll P e ds
  | y :: ys, d, h, hn => by
    simp only [DataW.weightsAll, List.mem_append]
    cases List.mem_cons.1 h with
    | inl e => subst e; exact .inl hn
    | inr e => exact .inr (weights_in e hn)

theorem addr_plain {w : World} {a : Addr} {v : Value} (h : w.cell? a = some v) : a = ⟨a.block, a.off, none⟩ ∧ a.block < w.heap.size := by
  obtain ⟨b, o, s⟩ := a
  unfold World.cell? at h
  split at h
  · rename_i c e1 e2 hh
    split at h
    · cases h
    · rename_i hs
      refine ⟨?_, ?_⟩
      · cases s with
        | none => rfl
        | some k => simp at hs
      · exact (Array.getElem?_eq_some_iff.1 hh).1
  · cases h

theorem opn_list {H : Type} {enc : TypeId × Value → H} {P : Program} {w : World} {base : Nat} {held : Bool} {t e : TypeId} {α : Type} {R : (Nat → Prop) → World → List Value → α → Prop} {bk : α → Nat} {sz : α → Prop} {k b : Nat}
    (ht : P.underlying t = some (.slice e)) (hc : P.cellsOf e = k) (hb : P.bytesOf e = b) (hk : 0 < k) (He : Opn enc P w base held e (R Any w) bk sz) :
    Opn enc P w base held t (fun cs ys => ∃ v, cs = [v] ∧ RL R k Any w v ys) (bL bk) (szL b sz) := by
  intro fuel cs x h
  rcases DataW.trod_slice ht h with ⟨rfl, rfl⟩ | ⟨a, len, cap, elems, rest, n, rfl, rfl, rfl, _, hl, hm, hlen, hel, _, _⟩
  · exact ⟨[], ⟨_, rfl, RL.nil R k Any w⟩, by simp [bL, bS, Rows.uptoBulk], fun _ => ⟨by simp, fun y hy => by cases hy⟩⟩
  · rw [hc] at hel
    have each : ∀ i (hi : i < elems.length), ∃ r y, r.length = k ∧ w.cells? base (a.add (i * k)) k = some r ∧ R Any w r y ∧ bk y ≤ Rows.uptoBulk elems[i].1 ∧ ((∀ n ∈ elems[i].1.weights P e, n ≤ reachBytes) → sz y) := fun i hi => by
      have h1 := hel i (by omega)
      rw [List.getElem?_eq_getElem hi] at h1
      obtain ⟨r, hr1, hr2⟩ := Option.bind_eq_some_iff.1 h1
      obtain ⟨y, g1, g2, g3⟩ := He n r _ hr2
      exact ⟨r, y, (World.cells?_some hr1).2.1, hr1, g1, g2, g3⟩
    clear hel h
    obtain ⟨rows, ys, q1, q2, q3, q4, q5⟩ : ∃ (rows : List (List Value)) (ys : List α), rows.length = elems.length ∧ All2 (R Any w) rows ys ∧ (∀ i r, rows[i]? = some r → r.length = k ∧ w.cells? base (a.add (i * k)) k = some r) ∧ bS bk ys ≤ Rows.uptoBulkAll (elems.map (·.1)) ∧
        ((∀ n ∈ DataW.weightsAll P e (elems.map (·.1)), n ≤ reachBytes) → ∀ y ∈ ys, sz y) := by
      clear hl hm hlen
      have key : ∀ (es : List (DataW H × List MemPlace)) (o : Nat), (∀ i (hi : i < es.length), ∃ r y, r.length = k ∧ w.cells? base (a.add ((o + i) * k)) k = some r ∧ R Any w r y ∧ bk y ≤ Rows.uptoBulk es[i].1 ∧ ((∀ n ∈ es[i].1.weights P e, n ≤ reachBytes) → sz y)) →
          ∃ (rows : List (List Value)) (ys : List α), rows.length = es.length ∧ All2 (R Any w) rows ys ∧ (∀ i r, rows[i]? = some r → r.length = k ∧ w.cells? base (a.add ((o + i) * k)) k = some r) ∧ bS bk ys ≤ Rows.uptoBulkAll (es.map (·.1)) ∧
            ((∀ n ∈ DataW.weightsAll P e (es.map (·.1)), n ≤ reachBytes) → ∀ y ∈ ys, sz y) := by
        intro es
        induction es with
        | nil => exact fun o _ => ⟨[], [], rfl, trivial, fun i r h => by simp at h, by simp [bS], fun _ y hy => by cases hy⟩
        | cons x es ih =>
          intro o hh
          obtain ⟨rows, ys, q1, q2, q3, q4, q5⟩ := ih (o + 1) (fun i hi => by
            obtain ⟨r, y, g⟩ := hh (i + 1) (by simp; omega)
            refine ⟨r, y, ?_⟩
            simp only [List.getElem_cons_succ] at g
            rw [show o + (i + 1) = o + 1 + i by omega] at g
            exact g)
          obtain ⟨r, y, g1, g2, g3, g4, g5⟩ := hh 0 (by simp)
          simp only [List.getElem_cons_zero] at g4 g5
          refine ⟨r :: rows, y :: ys, by simp [q1], ⟨g3, q2⟩, fun i r' hr' => ?_, ?_, fun hn y' hy' => ?_⟩
          · cases i with
            | zero => simp at hr'; subst hr'; exact ⟨g1, g2⟩
            | succ i =>
              simp at hr'
              have := q3 i r' hr'
              rw [show o + 1 + i = o + (i + 1) by omega] at this
              exact this
          · simp only [bS, List.map_cons, Rows.uptoBulkAll]; omega
          · simp only [List.map_cons, DataW.weightsAll, List.mem_append] at hn
            cases List.mem_cons.1 hy' with
            | inl e => subst e; exact g5 fun n h => hn n (.inl h)
            | inr e => exact q5 (fun n h => hn n (.inr h)) y' e
      obtain ⟨rows, ys, q⟩ := key elems 0 (fun i hi => by
        obtain ⟨r, y, g⟩ := each i hi
        refine ⟨r, y, ?_⟩
        rw [Nat.zero_add]
        exact g)
      refine ⟨rows, ys, ?_⟩
      simp only [Nat.zero_add] at q
      exact q
    have hyl := q2.len
    refine ⟨ys, ⟨_, rfl, rows, ⟨fun r hr => ?_, ?_⟩, q2⟩, ?_, fun hn => ⟨?_, q5 fun n h => hn n ?_⟩⟩
    · obtain ⟨i, hi, e⟩ := List.mem_iff_getElem.1 hr
      exact (q3 i r (by rw [← e]; exact List.getElem?_eq_getElem hi)).1
    · rcases Nat.eq_zero_or_pos rows.length with h0 | h0
      · refine .inl ⟨some a, cap, ?_, List.length_eq_zero_iff.1 h0, hm⟩
        have : len = 0 := by omega
        rw [this]
      · have h1 := q3 0 _ (List.getElem?_eq_getElem h0)
        have h2 := (World.cells?_some h1.2).2.2 0 hk
        have hr0 : 0 < (rows[0]).length := by omega
        rw [List.getElem?_eq_getElem hr0] at h2
        have ha : a = ⟨a.block, a.off, none⟩ ∧ a.block < w.heap.size := by
          have : (a.add (0 * k)).add 0 = a := by simp [Addr.add]
          rw [this] at h2
          exact addr_plain h2
        refine .inr ⟨a.block, a.off, cap, ?_, by omega, hm, h0, trivial, ha.2, fun i r hr j v hv => ?_⟩
        · have : len = rows.length := by omega
          rw [this, ← ha.1]
        · have hj : j < r.length := (List.getElem?_eq_some_iff.1 hv).1
          have h3 := q3 i r hr
          have h4 := (World.cells?_some h3.2).2.2 j (by omega)
          rw [← hv, ← h4]
          congr 1
          rw [ha.1]
          exact (add_add_plain _ _ _ _).symm
    · simp only [bL, Rows.uptoBulk]; omega
    · have h6 := hn ((elems.map (·.1)).length * P.bytesOf e + (rest.map (·.1)).length * P.bytesOf e) (by simp [DataW.weights, ht, Nat.add_mul])
      rw [hb] at h6
      simp only [List.length_map, reachBytes] at h6
      have : ys.length = elems.length := by omega
      rw [this]
      omega
    · simp only [DataW.weights, ht, List.mem_cons, List.mem_append]
      exact .inr (.inl h)

section
variable {H : Type} {enc : TypeId × Value → H} {w : World} {base : Nat} {held : Bool}

theorem opn_int : Opn enc Tryd.prog w base held 3 (RInt Any w) (fun _ => 1) (fun _ => True) := by
  intro fuel cs x h
  obtain ⟨n, rfl, rfl, _⟩ := DataW.trod_int Tryd.underlying3 h
  exact ⟨n, rfl, by simp [Rows.uptoBulk], fun _ => trivial⟩

/-- The parts of a struct weigh no more. -/
theorem weights_fld {P : Program} {t : TypeId} {fs : Array Field} (ht : P.underlying t = some (.struct fs)) {ds : List (DataW H)} (hn : ∀ n ∈ (DataW.agg ds).weights P t, n ≤ reachBytes) (i : Nat) {f : Field} (e : fs[i]? = some f) {T : TypeId} (hT : f.type = T) {d : DataW H} (hd : ds[i]? = some d) :
    ∀ n ∈ d.weights P T, n ≤ reachBytes := fun n h => by
  refine hn n ?_
  simp only [DataW.weights, ht]
  refine DataW.weights_mem_each (j := i) (t := T) ?_ hd n h
  rw [List.getElem?_map]
  rw [← Array.getElem?_toList] at e
  rw [e, ← hT]
  rfl

theorem cells_int : Tryd.prog.cellsOf 3 = 1 := by kernel_rfl
theorem cells_text : Tryd.prog.cellsOf 24 = 1 := by kernel_rfl

theorem opn_vote : Opn enc Tryd.prog w base held 35 (RVote Any w) bV szV := by
  intro fuel cs x h
  obtain ⟨xs, n, rfl, rfl, hl, hxl, hf⟩ := DataW.trod_struct Tryd.underlying35 h
  have hxl : xs.length = 2 := hxl
  rw [show Tryd.prog.cellsOf 35 = 2 by kernel_rfl] at hl
  obtain ⟨c0, c1, rfl⟩ : ∃ c0 c1, cs = [c0, c1] := of2 hl
  obtain ⟨x0, x1, rfl⟩ : ∃ x0 x1, xs = [x0, x1] := of2 hxl
  have h0 := fld hf 0 rfl rfl rfl cells_int (cs' := [c0]) rfl rfl
  have h1 := fld hf 1 rfl rfl rfl cells_text (cs' := [c1]) rfl rfl
  obtain ⟨y0, g0, (b0 : 1 ≤ _), _⟩ := opn_int _ _ _ h0
  obtain ⟨y1, ⟨v, e1, g1⟩, b1, s1⟩ := opn_text _ _ _ h1
  cases g0
  cases e1
  refine ⟨(y0, y1), ⟨_, rfl, g1⟩, ?_, fun hn => s1 (weights_fld Tryd.underlying35 hn 1 rfl rfl rfl)⟩
  simp only [bV, Rows.uptoBulk, Rows.uptoBulkAll, List.map_cons, List.map_nil]
  omega
def RBalO (_ : Nat → Prop) (_ : World) (r : List Value) (x : PBal) : Prop := r = [.int .i64 x.1, .int .i64 x.2]
theorem opn_bal : Opn enc Tryd.prog w base held 23 (RBalO Any w) (fun _ => 3) (fun _ => True) := by
  intro fuel cs x h
  obtain ⟨xs, n, rfl, rfl, hl, hxl, hf⟩ := DataW.trod_struct Tryd.underlying23 h
  have hxl : xs.length = 2 := hxl
  rw [show Tryd.prog.cellsOf 23 = 2 by kernel_rfl] at hl
  obtain ⟨c0, c1, rfl⟩ : ∃ c0 c1, cs = [c0, c1] := of2 hl
  obtain ⟨x0, x1, rfl⟩ : ∃ x0 x1, xs = [x0, x1] := of2 hxl
  have h0 := fld hf 0 rfl rfl rfl cells_int (cs' := [c0]) rfl rfl
  have h1 := fld hf 1 rfl rfl rfl cells_int (cs' := [c1]) rfl rfl
  obtain ⟨y0, g0, (b0 : 1 ≤ _), _⟩ := opn_int _ _ _ h0
  obtain ⟨y1, g1, (b1 : 1 ≤ _), _⟩ := opn_int _ _ _ h1
  cases g0
  cases g1
  refine ⟨(y0, y1), rfl, ?_, fun _ => trivial⟩
  simp only [Rows.uptoBulk, Rows.uptoBulkAll, List.map_cons, List.map_nil]
  omega
theorem opn_votes : Opn enc Tryd.prog w base held 27 (fun cs ys => ∃ v, cs = [v] ∧ RL RVote 2 Any w v ys) (bL bV) (szL 32 szV) := opn_list Tryd.underlying27 (by kernel_rfl) (by kernel_rfl) (by decide) opn_vote
theorem opn_ints : Opn enc Tryd.prog w base held 58 (fun cs ys => ∃ v, cs = [v] ∧ RL RInt 1 Any w v ys) (bL fun _ => 1) (szL 8 fun _ => True) := opn_list Tryd.underlying58 (by kernel_rfl) (by kernel_rfl) (by decide) opn_int
theorem cells_votes : Tryd.prog.cellsOf 27 = 1 := by kernel_rfl
theorem cells_bal : Tryd.prog.cellsOf 23 = 2 := by kernel_rfl
end
#print axioms opn_text
end Go.Proofs.YtkgjlmhgfefegaaDoor
end
