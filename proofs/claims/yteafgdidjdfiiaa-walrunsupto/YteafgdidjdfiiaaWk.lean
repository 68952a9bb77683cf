/- Logs that break, plain. -/
import Derived.Test.YteafgdidjdfiiaaWc
set_option linter.unusedVariables false
set_option linter.unusedSimpArgs false
namespace Go.Proofs.Yteafgdidjdfiiaa
open Go.RowKit Oct

/-- A disk of full room: whole; one that is to break after n writes; one that broke. -/
def whD (l : List Int) : PDk := ⟨l, 4194304, false, false, 0, 0⟩
def tkA (l : List Int) (n t : Int) : PDk := ⟨l, 4194304, false, true, n, t⟩
def tkB (l : List Int) : PDk := ⟨l, 4194304, true, false, 0, 0⟩
theorem nw_whD : nwD 4194304 = whD [] := by kernel_rfl
theorem me_tkA (l : List Int) (n t : Int) : meD (tkA l n t) = whD l := rfl
theorem me_tkB (l : List Int) : meD (tkB l) = whD l := rfl
theorem me_whD (l : List Int) : meD (whD l) = whD l := rfl
theorem tkA_no {l : List Int} {n t m : Int} (h : m ≤ 4194304) : noD (tkA l n t) m = 0 := by
  unfold noD tkA
  rw [if_neg (by simp), if_neg (by simp only; omega)]
theorem whD_no {l : List Int} {m : Int} (h : m ≤ 4194304) : noD (whD l) m = 0 := by
  unfold noD whD
  rw [if_neg (by simp), if_neg (by simp only; omega)]
theorem tk_tick {l x : List Int} {n t : Int} (h : l.length + x.length ≤ 4194304) (hn : 0 < n) : apD (tkA l n t) x = (tkA (l ++ x) (n - 1) t, 0) := by
  have h0 : noD (tkA l n t) ((tkA l n t).l.length + x.length) = 0 := tkA_no (by simp only [tkA]; omega)
  have hn0 : n ≠ 0 := by omega
  unfold apD
  rw [if_neg (fun h => h h0), if_neg (by simp [brD, tkA, hn0])]
  simp [coD, tkA, hn0]
theorem tk_tear {l x : List Int} {t : Int} (h : l.length + x.length ≤ 4194304) : apD (tkA l 0 t) x = (tkB (l ++ x.take (wit t x.length).toNat), 115) := by
  have h0 : noD (tkA l 0 t) ((tkA l 0 t).l.length + x.length) = 0 := tkA_no (by simp only [tkA]; omega)
  unfold apD
  rw [if_neg (fun h => h h0), if_pos (by simp [brD, tkA])]
  rfl
theorem tk_dead {l x : List Int} : apD (tkB l) x = (tkB l, 115) := by
  have h0 : noD (tkB l) ((tkB l).l.length + x.length) = 115 := by unfold noD tkB; rw [if_pos rfl]
  unfold apD
  rw [h0, if_pos (by decide)]
theorem wh_ap {l x : List Int} (h : l.length + x.length ≤ 4194304) : apD (whD l) x = (whD (l ++ x), 0) := by
  have h0 : noD (whD l) ((whD l).l.length + x.length) = 0 := whD_no (by simp only [whD]; omega)
  unfold apD
  rw [if_neg (fun h => h h0), if_neg (by simp [brD, whD])]
  simp [coD, whD]
theorem wh_re {l x : List Int} (h : x.length ≤ 4194304) : reD (whD l) x = (whD x, 0) := by
  have h0 : noD (whD l) x.length = 0 := whD_no (by omega)
  unfold reD
  rw [if_neg (fun h => h h0), if_neg (by simp [brD, whD])]
  simp [coD, whD]
theorem tk_re {l x : List Int} {t : Int} (h : x.length ≤ 4194304) : reD (tkA l 0 t) x = (tkB l, 115) := by
  have h0 : noD (tkA l 0 t) x.length = 0 := tkA_no (by omega)
  unfold reD
  rw [if_neg (fun h => h h0), if_pos (by simp [brD, tkA])]
  rfl
/-- Opening whole records. -/
theorem op_whole {ll : List (List Int)} (hl : Byts ll) (ht : tot ll ≤ 1000000000) : opT (whD (packL ll)) = (whD (packL ll), 0) ∧ opL (whD (packL ll)) = ll := by
  have hs := scn_pack hl ht
  have e : opT (whD (packL ll)) = (whD (packL ll), 0) := by
    unfold opT
    rw [if_neg (by simp [whD])]
    show (if (scn (packL ll)).2 < (packL ll).length then _ else _) = _
    rw [hs, if_neg (by simp)]
  refine ⟨e, ?_⟩
  unfold opL
  rw [e, if_pos rfl]
  show (scn (packL ll)).1 = ll
  rw [hs]
/-- Opening records with a torn one behind. -/
theorem op_torn {ll : List (List Int)} {t : List Int} (hl : Byts ll) (hb : Byt t) (ht : tot ll + t.length + 1 ≤ 400000) (k : Nat) (hk : k ≤ (frm t).length) :
    ∃ G, ll.length ≤ G ∧ G ≤ ll.length + 1 ∧ opT (whD (packL ll ++ (frm t).take k)) = (whD (packL ((ll ++ [t]).take G)), 0) ∧ opL (whD (packL ll ++ (frm t).take k)) = (ll ++ [t]).take G := by
  have hs := scn_torn hl hb (by omega) k
  have hpl := packL_len ll
  by_cases h : k < (frm t).length
  · rw [if_pos h] at hs
    refine ⟨ll.length, Nat.le_refl _, by omega, ?_⟩
    rw [List.take_left]
    have e : opT (whD (packL ll ++ (frm t).take k)) = (whD (packL ll), 0) := by
      unfold opT
      rw [if_neg (by simp [whD])]
      show (if (scn (packL ll ++ (frm t).take k)).2 < (packL ll ++ (frm t).take k).length then reD (whD (packL ll ++ (frm t).take k)) ((packL ll ++ (frm t).take k).take (scn (packL ll ++ (frm t).take k)).2) else (whD (packL ll ++ (frm t).take k), 0)) = _
      rw [hs]
      dsimp only
      rw [List.take_left]
      split
      · exact wh_re (by omega)
      · rename_i h2
        rw [List.length_append] at h2
        have : (frm t).take k = [] := List.eq_nil_of_length_eq_zero (by omega)
        rw [this, List.append_nil]
    refine ⟨e, ?_⟩
    unfold opL
    rw [e, if_pos rfl]
    show (scn (packL ll ++ (frm t).take k)).1 = ll
    rw [hs]
  · rw [if_neg h] at hs
    refine ⟨ll.length + 1, by omega, Nat.le_refl _, ?_⟩
    have e1 : (ll ++ [t]).take (ll.length + 1) = ll ++ [t] := List.take_of_length_le (by simp)
    have e2 : packL ll ++ (frm t).take k = packL (ll ++ [t]) := by rw [packL_frm, List.take_of_length_le (by omega)]
    rw [e1, e2]
    exact op_whole (fun x hx => by
      rcases List.mem_append.1 hx with h | h
      · exact hl x h
      · simp at h; subst h; exact hb) (by rw [tot_app]; simp only [tot]; omega)
/-- What a disk will be found to hold: T records, or one more. -/
def Kps (ll : List (List Int)) (T : Nat) (d : PDk) : Prop := ∃ G, T ≤ G ∧ G ≤ T + 1 ∧ G ≤ ll.length ∧ opT (meD d) = (whD (packL (ll.take G)), 0) ∧ opL (meD d) = ll.take G
theorem byts_take {ll : List (List Int)} (h : Byts ll) (k : Nat) : Byts (ll.take k) := fun x hx => h x (List.mem_of_mem_take hx)
theorem kps_whole {ll : List (List Int)} (hl : Byts ll) (ht : tot ll ≤ 400000) {T : Nat} (hT : T ≤ ll.length) {d : PDk} (hd : meD d = whD (packL (ll.take T))) : Kps ll T d := by
  obtain ⟨e1, e2⟩ := op_whole (byts_take hl T) (by have := tot_take ll T; omega)
  exact ⟨T, Nat.le_refl _, by omega, hT, by rw [hd]; exact e1, by rw [hd]; exact e2⟩
theorem kps_torn {ll : List (List Int)} (hl : Byts ll) (ht : tot ll ≤ 400000) {T : Nat} {x : List Int} (hx : ll[T]? = some x) (t : Int) : Kps ll T (tkB (packL (ll.take T) ++ (frm x).take (wit t (frm x).length).toNat)) := by
  have hT := (List.getElem?_eq_some_iff.1 hx).1
  have hsn := take_snoc' ll T x hx
  have htt : tot (ll.take T) + x.length + 1 ≤ 400000 := by
    have h1 := tot_take ll (T + 1)
    rw [hsn, tot_app] at h1
    simp only [tot] at h1
    omega
  have hwd := wit_bd (n := t) (m := ((frm x).length : Int)) (by omega)
  obtain ⟨G, g1, g2, g3, g4⟩ := op_torn (byts_take hl T) (hl x (List.mem_of_getElem? hx)) htt (wit t (frm x).length).toNat (by omega)
  have hlen : (ll.take T).length = T := by rw [List.length_take]; omega
  rw [hlen] at g1 g2
  have e : (ll.take T ++ [x]).take G = ll.take G := by rw [← hsn, List.take_take, Nat.min_eq_left (by omega)]
  rw [e] at g3 g4
  exact ⟨G, g1, g2, by omega, g3, g4⟩
/-- Lengths with five more each. -/
def s5 : List (List Int) → Nat
  | [] => 0
  | l :: r => l.length + 5 + s5 r
theorem s5_app : ∀ (a b : List (List Int)), s5 (a ++ b) = s5 a + s5 b
  | [], b => by simp [s5]
  | l :: r, b => by simp [s5, s5_app r b]; omega
theorem s5_tot : ∀ (a : List (List Int)), tot a ≤ s5 a
  | [] => by simp [tot, s5]
  | l :: r => by have := s5_tot r; simp [tot, s5]; omega
theorem s5_snoc {ll : List (List Int)} {k : Nat} {x : List Int} (h : ll[k]? = some x) : s5 (ll.take (k + 1)) = s5 (ll.take k) + x.length + 5 := by
  rw [take_snoc' ll k x h, s5_app]
  simp only [s5]
  omega
/-- Texts of a list that came in, each at its place. -/
theorem rdl_at {w : World} {v : Value} {ll : List (List Int)} (h : Rdl w v ll) (k : Nat) (x : List Int) (hx : ll[k]? = some x) : ∃ b off cap u, v = .slice (some ⟨b, off, none⟩) ll.length cap ∧ ll.length ≤ cap ∧ cap ≤ maxLen ∧ ∀ w', Below w.heap.size w w' → w'.cell? ⟨b, off + k, none⟩ = some u ∧ Rd w' u x := by
  obtain ⟨vs, h1, h2⟩ := h
  have hlen := h2.len
  have hk := (List.getElem?_eq_some_iff.1 hx).1
  obtain ⟨b, off, cap, e, c1, c2, hb, hc⟩ := h1.at (by omega)
  have hv := List.getElem?_eq_getElem (show k < vs.length by omega)
  exact ⟨b, off, cap, _, by rw [e, hlen], by omega, c2, fun w' hw => ⟨(hw.cell (p := ⟨b, off + k, none⟩) hb).trans (hc k _ hv), (h2.get hv hx).below hw⟩⟩
theorem All2.take {α β : Type} {R : α → β → Prop} : ∀ {xs : List α} {ys : List β}, All2 R xs ys → ∀ k, All2 R (xs.take k) (ys.take k)
  | [], [], _, k => by simp [All2]
  | x :: xs, y :: ys, h, 0 => trivial
  | x :: xs, y :: ys, h, k + 1 => ⟨h.1, All2.take h.2 k⟩
  | [], _ :: _, h, _ => h.elim
  | _ :: _, [], h, _ => h.elim
theorem rdl_form {w : World} {v : Value} {ll : List (List Int)} (h : Rdl w v ll) : ∃ ao cap, v = .slice ao ll.length cap ∧ ll.length ≤ cap ∧ cap ≤ maxLen := by
  obtain ⟨vs, ⟨ao, cap, e, c1, c2, _⟩, h2⟩ := h
  exact ⟨ao, cap, by rw [e, h2.len], by rw [← h2.len]; exact c1, c2⟩
/-- The first of them. -/
theorem rdl_take {w : World} {ao : Option Addr} {N cap : Nat} {ll : List (List Int)} (h : Rdl w (.slice ao N cap) ll) (G : Nat) (hG : G ≤ ll.length) : Rdl w (.slice ao G cap) (ll.take G) := by
  obtain ⟨vs, ⟨ao', cap', e, c1, c2, c3, c4⟩, h2⟩ := h
  injection e with e1 e2 e3
  subst e1 e3
  have hlen := h2.len
  have hvl : (vs.take G).length = G := by rw [List.length_take]; omega
  refine ⟨vs.take G, ⟨ao, cap, by rw [hvl], by omega, c2, fun ha => ?_, fun a ha j u hu => ?_⟩, h2.take G⟩
  · obtain ⟨h3, h4⟩ := c3 ha
    exact ⟨by rw [h3]; simp, h4⟩
  · refine c4 a ha j u ?_
    rw [List.getElem?_take] at hu
    split at hu
    · exact hu
    · cases hu
theorem run_cutT (ao : Option Addr) (n c m : Nat) (hm : m ≤ n) (hc : n ≤ c) (u : World) : (Instr.slice 24 (.slice ao n c) none (some (.int .i64 (m : Int))) none).run Try.prog u = .ok (.slice ao m c) u := by
  have ht : Try.prog.underlying 24 = some (.slice (Try.prog.elem 24)) := by kernel_rfl
  rw [run_slice_h u 24 ao n c ht .i64 (m : Int) (by omega) (by omega)]
  have hs : (sizeOf (Try.prog.elem 24)).run Try.prog u = .ok 1 u := by
    rw [show Try.prog.elem 24 = 22 by kernel_rfl]
    obtain ⟨i0, hi, hz0, hz1, hz2⟩ := info_parts Try.info23
    simp [sizeOf, typeInfo, hi, hz1]
  rw [hs]
  have e : (ao.map fun x => x.add 0) = ao := by cases ao <;> simp [Addr.add]
  simp only [Result.andThen, sliced, Int.toNat_natCast, Nat.mul_one, Nat.sub_zero, e, ite_self]
end Go.Proofs.Yteafgdidjdfiiaa
