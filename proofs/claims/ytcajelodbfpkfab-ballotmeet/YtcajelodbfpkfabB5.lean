/- Appends of ints; the walks over first orders. -/
import Derived.Test.YtcajelodbfpkfabRw
namespace Go.Proofs.Ytcajelodbfpkfab
open Go.RowKit Oct Bal

theorem Try.infoI : (Try.prog.info? 3).map (fun i => (i.zero, i.size, i.bytes)) = some (some (.int .i64 0), 1, 8) := by kernel_rfl
theorem Try.sizI : (Try.prog.info? 3).map (·.size) = some 1 := by kernel_rfl

/-- 'append(s, x...)' of ints, at this program. -/
theorem app_ints_w {w : World} {ops : Array Oper} {rest : List Oper} {o : Oper} {a : Act} {Q : Exit → Act → World → Prop} (hgd : Region.wanted o (yielded ops a.tmps) = true) (s x : Operand)
    (ho : o.op = .call { callee := .builtin .append, args := #[s, x], argTypes := #[22, 22] })
    (v : Value) (l : List Int) (hs : a.eval s = v) (hown : Own w 3 v (ic l)) (sv : Value) (m : List Int) (hx : a.eval x = sv) (hsrc : Rdi w sv m) (hb : l.length + m.length ≤ 17592186044416)
    (h : ∀ v' w', App w 3 v w' v' (ic (l ++ m)) → wpList Try.prog ops Q rest (a.put o.dst v') w') : wpList Try.prog ops Q (o :: rest) a w := by
  obtain ⟨i0, hi, hz0, hz1, hz2⟩ := info_parts Try.infoI
  refine wpList_app hgd s x 22 ho 3 i0 (.int .i64 0) 8 Try.underlying22 hi hz0 hz1 hz2 rfl v (ic l) hs hown sv (ic m) hx hsrc (ic_one _) (by rw [ic_len, ic_len]; unfold maxLen; omega) (by rw [ic_len, ic_len]; omega) ?_
  rw [← ic_app]
  exact h
theorem app_ints {w : World} {ops : Array Oper} {rest : List Oper} {o : Oper} {a : Act} {Q : Exit → Act → World → Prop} (hgd : o.guard = none) (s x : Operand)
    (ho : o.op = .call { callee := .builtin .append, args := #[s, x], argTypes := #[22, 22] })
    (v : Value) (l : List Int) (hs : a.eval s = v) (hown : Own w 3 v (ic l)) (sv : Value) (m : List Int) (hx : a.eval x = sv) (hsrc : Rdi w sv m) (hb : l.length + m.length ≤ 17592186044416)
    (h : ∀ v' w', App w 3 v w' v' (ic (l ++ m)) → wpList Try.prog ops Q rest (a.put o.dst v') w') : wpList Try.prog ops Q (o :: rest) a w :=
  app_ints_w (wanted_none hgd) s x ho v l hs hown sv m hx hsrc hb h
theorem own_none (w : World) (e : TypeId) : Own (w.alloc (.cells #[] e)) e (.slice (some ⟨w.heap.size, 0, none⟩) 0 0) (ic []) :=
  World.ownsRow_lit (base := 0) (size := 1) w #[] 0 (Nat.zero_le _) (by decide) rfl
/-- 'append([]int{}, x...)': a copy. -/
theorem app_icopy {w : World} {ops : Array Oper} {rest : List Oper} {o : Oper} {a : Act} {Q : Exit → Act → World → Prop} (hgd : o.guard = none) (s x : Operand)
    (ho : o.op = .call { callee := .builtin .append, args := #[s, x], argTypes := #[22, 22] })
    (hs : a.eval s = .slice (some ⟨w.heap.size, 0, none⟩) 0 0) (sv : Value) (m : List Int) (hx : a.eval x = sv) (hsrc : Rdi w sv m) (hb : m.length ≤ 17592186044416)
    (h : ∀ v' w', Own w' 3 v' (ic m) → Fr w.heap.size v' → Below w.heap.size w w' → wpList Try.prog ops Q rest (a.put o.dst v') w') : wpList Try.prog ops Q (o :: rest) a (w.alloc (.cells #[] 3)) := by
  refine app_ints hgd s x ho (.slice (some ⟨w.heap.size, 0, none⟩) 0 0) [] hs (own_none w 3) sv m hx (hsrc.below (below_alloc w _)) (by simp only [List.length_nil]; omega) ?_
  intro v' w' happ
  rw [List.nil_append] at happ
  have hp := happ.pre (below_alloc w _)
  exact h v' w' hp.own (happ.fr (fr_at _ _ _ _ (Nat.le_refl _)) (by simp)) ((below_alloc w _).trans (happ.below (fr_at _ _ _ _ (Nat.le_refl _)) (by simp)))
theorem rdi_one (w : World) (x : Int) (e : TypeId) : Rdi (w.alloc (.cells #[.int .i64 x] e)) (.slice (some ⟨w.heap.size, 0, none⟩) 1 1) [x] :=
  Own.rdv (e := e) (World.ownsRow_lit (base := 0) (size := 1) w #[.int .i64 x] 1 (Nat.zero_le _) (by decide) rfl)
/-- An append into a row with room: it stays there. -/
theorem run_room (w : World) (ty : TypeId) (g cap : Nat) (xs : List Value) (hown : Own w 3 (.slice (some ⟨g, 0, none⟩) xs.length cap) xs) (sv : Value) (news : List Value) (hsrc : Rdv w sv news)
    (h1 : ∀ u ∈ news, u.oneCell' = true) (hroom : xs.length + news.length ≤ cap) (hcap : cap ≤ 1000000) :
    ∃ w', (Builtin.append_ #[22, 22] ty #[.slice (some ⟨g, 0, none⟩) xs.length cap, sv]).run Try.prog w = .ok (.slice (some ⟨g, 0, none⟩) (xs.length + news.length) cap) w' ∧ Own w' 3 (.slice (some ⟨g, 0, none⟩) (xs.length + news.length) cap) (xs ++ news) ∧ w.grownBy w' (some g) := by
  obtain ⟨i0, hi, hz0, hz1, hz2⟩ := info_parts Try.infoI
  obtain ⟨v', w', hr, happ⟩ := run_app (P := Try.prog) w 22 ty 3 i0 (.int .i64 0) 8 Try.underlying22 hi hz0 hz1 hz2 rfl _ xs hown sv news hsrc h1 (by unfold maxLen; omega) (by omega)
  have hv : v' = .slice (some ⟨g, 0, none⟩) (xs.length + news.length) cap := by
    obtain ⟨ao, c, rfl, c1, c2, c3, c4⟩ := hsrc
    cases ao with
    | none =>
      obtain ⟨rfl, rfl⟩ := c3 rfl
      have := run_append_owned_none (P := Try.prog) w 0 22 ty 3 i0 1 Try.underlying22 hi _ _ xs hown
      simp only [List.length_nil] at hr
      rw [this] at hr
      injection hr with e1 _
      exact e1.symm
    | some a =>
      rcases hown.2 with ⟨hx, _⟩ | ⟨g', vc, cur, hx, _, hg, n1, n2, n3, n4⟩
      · cases hx
      · cases hx
        have hr2 := run_append_room (P := Try.prog) w 22 ty 3 i0 Try.underlying22 hi g xs.length cap cur hg a news.length c news (by rw [hz1]; omega) (c4 a rfl) h1 hroom (by rw [hz1, n3]; omega)
        rw [hr2] at hr
        injection hr with e1 _
        exact e1.symm
  subst hv
  exact ⟨w', hr, happ.own, happ.grown⟩
theorem app_room {w : World} {ops : Array Oper} {rest : List Oper} {o : Oper} {a : Act} {Q : Exit → Act → World → Prop} (hgd : o.guard = none) (s x : Operand)
    (ho : o.op = .call { callee := .builtin .append, args := #[s, x], argTypes := #[22, 22] })
    (g n cap : Nat) (l : List Int) (hs : a.eval s = .slice (some ⟨g, 0, none⟩) n cap) (hn : l.length = n) (hown : Own w 3 (.slice (some ⟨g, 0, none⟩) n cap) (ic l)) (sv : Value) (m : List Int) (hx : a.eval x = sv) (hsrc : Rdi w sv m)
    (hroom : n + m.length ≤ cap) (hcap : cap ≤ 1000000)
    (h : ∀ w', Own w' 3 (.slice (some ⟨g, 0, none⟩) (n + m.length) cap) (ic (l ++ m)) → w.grownBy w' (some g) → wpList Try.prog ops Q rest (a.put o.dst (.slice (some ⟨g, 0, none⟩) (n + m.length) cap)) w') : wpList Try.prog ops Q (o :: rest) a w := by
  subst hn
  have e : l.length = (ic l).length := (ic_len l).symm
  have e' : m.length = (ic m).length := (ic_len m).symm
  rw [e] at hown hs
  obtain ⟨w', hr, h2, h3⟩ := run_room w o.type g cap (ic l) hown sv (ic m) hsrc (ic_one _) (by rw [ic_len, ic_len]; exact hroom) hcap
  refine wpList_plain hgd fun K hK => ?_
  unfold Oper.wp
  simp [execOp, ho, resolve, invoke, builtin, hs, hx, hr, Result.andThen]
  rw [← ic_app] at h2
  have := h w' (by rw [e, e']; exact h2) h3
  rw [e, e'] at this
  exact hK _ _ this

/-- The first order of a view. -/
def sta (h n : Int) (k : Nat) : List Int := (List.range k).map fun (i : Nat) => (h + (i : Int)) % n
def ord0 (v n : Int) : List Int := if rgt n = true ∧ 0 ≤ v then sta (v % n) n n.toNat else []
theorem sta_len (h n : Int) (k : Nat) : (sta h n k).length = k := by simp [sta]
theorem sta_succ (h n : Int) (k : Nat) : sta h n (k + 1) = sta h n k ++ [(h + (k : Int)) % n] := by simp [sta, List.range_succ]
theorem ord0_yes {v n : Int} (h : rgt n = true) (h0 : 0 ≤ v) : ord0 v n = sta (v % n) n n.toNat := by rw [ord0, if_pos ⟨h, h0⟩]
theorem ord0_no {v n : Int} (h : ¬ (rgt n = true ∧ 0 ≤ v)) : ord0 v n = [] := by rw [ord0, if_neg h]
theorem ord0_isO {v n : Int} (h : rgt n = true) (h0 : 0 ≤ v) : isO (ord0 v n) n = true := by
  have hn := rgt_le h
  have hb := hed_bd (v := v) h
  rw [ord0_yes h h0, isO_iff, sta_len]
  refine ⟨h, by omega, fun r hr => ?_⟩
  have hr := mem_rng.1 hr
  simp only [sta, List.mem_map, List.mem_range]
  by_cases hc : v % n ≤ r
  · refine ⟨(r - v % n).toNat, by omega, ?_⟩
    rw [show v % n + (((r - v % n).toNat : Nat) : Int) = r by omega]
    exact Int.emod_eq_of_lt hr.1 (by omega)
  · refine ⟨(r - v % n + n).toNat, by omega, ?_⟩
    rw [show v % n + (((r - v % n + n).toNat : Nat) : Int) = r + n by omega, Int.add_emod_right]
    exact Int.emod_eq_of_lt hr.1 (by omega)
theorem ord0_head {v n : Int} (h : rgt n = true) (h0 : 0 ≤ v) : (ord0 v n)[0]? = some (v % n) := by
  have hn := rgt_le h
  have hb := hed_bd (v := v) h
  rw [ord0_yes h h0]
  obtain ⟨m, hm⟩ : ∃ m, n.toNat = m + 1 := ⟨n.toNat - 1, by omega⟩
  rw [hm]
  simp only [sta, List.getElem?_map, List.getElem?_range, Nat.zero_lt_succ, Option.map_some]
  simp [Int.emod_eq_of_lt hb.1 hb.2]

/-- 'make([]int, l, c)'. -/
theorem run_mk (l c : Nat) (hc : l ≤ c) (hn : c ≤ 1000000) (u : World) : (Instr.makeSlice 22 (.int .i64 (l : Int)) (.int .i64 (c : Int))).run Try.prog u =
    .ok (.slice (some ⟨u.heap.size, 0, none⟩) l c) (u.alloc (.cells (madeCells #[.int .i64 0] c) 3)) := by
  obtain ⟨i0, hi, hz0, hz1, hz2⟩ := info_parts Try.infoI
  have h := run_make (P := Try.prog) u 22 3 i0 (.int .i64 0) Try.underlying22 hi hz0 .i64 .i64 (l : Int) (c : Int) (by omega) (by omega) (by rw [hz2]; omega) (by omega)
  rw [Int.toNat_natCast, Int.toNat_natCast] at h
  simpa [hz1, Value.cells] using h
def iz (n : Nat) : List Int := List.replicate n 0
theorem row_made (w : World) (n : Nat) : Row (w.alloc (.cells (madeCells #[.int .i64 0] n) 3)) w.heap.size 3 (ic (iz n)) := by
  have e : madeCells #[Value.int .i64 0] n = (ic (iz n)).toArray := by
    apply Array.toList_inj.1
    rw [toList_madeCells_one]
    simp [ic, iz]
  rw [e]
  exact Row.new w _ _
theorem own_row {w : World} {g : Nat} {xs : List Value} {t : TypeId} (h : Row w g t xs) (k : Nat) (hk : k ≤ xs.length) (hm : xs.length ≤ maxLen) : Own w t (.slice (some ⟨g, 0, none⟩) k xs.length) (xs.take k) := by
  have e : (xs.take k).length = k := by rw [List.length_take]; omega
  refine ⟨by rw [e]; omega, .inr ⟨g, xs.length, xs.toArray, by rw [e], Nat.zero_le _, h, by rw [e]; exact hk, hm, by simp, by rw [e]; simp⟩⟩
theorem sta_set (h n : Int) (k m : Nat) (hk : k < m) : (ic (sta h n k ++ iz (m - k))).set k (.int .i64 ((h + (k : Int)) % n)) = ic (sta h n (k + 1) ++ iz (m - (k + 1))) := by
  rw [ic_app, List.set_append_right _ _ (by rw [ic_len, sta_len]; omega), ic_len, sta_len, Nat.sub_self, sta_succ, ic_app, ic_app, List.append_assoc]
  congr 1
  rw [show m - k = (m - (k + 1)) + 1 by omega, iz, List.replicate_succ]
  rfl
end Go.Proofs.Ytcajelodbfpkfab
