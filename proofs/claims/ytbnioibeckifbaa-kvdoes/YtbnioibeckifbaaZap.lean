/- Bytes of texts that are turned one by one: what a loop over an answer's memory leaves. -/
import Derived.Test.YtbnioibeckifbaaKz
import Derived.Laws.BitsAllLaws
set_option linter.unusedVariables false
set_option linter.unusedSimpArgs false
namespace Go.Proofs.Ytbnioibeckifbaa
open Go.RowKit Oct Kvl

theorem xor_rng {y : Int} (h : 0 ≤ y ∧ y ≤ 255) : 0 ≤ bits .xor .u8 y 255 ∧ bits .xor .u8 y 255 ≤ 255 := by
  rw [u8_xor y 255 h.1 (by omega) (by decide) (by decide)]
  have : y.toNat ^^^ (255 : Int).toNat < 2 ^ 8 := Nat.xor_lt_two_pow (by omega) (by decide)
  omega
theorem OT.byteR {G : Nat → Prop} {w w' : World} {v : Value} {l : List Int} (h : OT G w v l) {k j : Nat} {cur : List Value} {x : Int} (hk : Row w k 5 cur) (hk' : Row w' k 5 (cur.set j (.int .u8 x))) (hg' : w.grownBy w' (some k)) (hx : 0 ≤ x ∧ x ≤ 255) : ∃ l', l'.length = l.length ∧ OT G w' v l' := by
  by_cases hg : v.ownBlock = some k
  · obtain ⟨hown, hb, hG⟩ := h
    refine ⟨l.set j x, by simp, ?_, fun z hz => ?_, hG⟩
    · obtain ⟨h1, h2⟩ := hown
      rcases h2 with ⟨rfl, _⟩ | ⟨g', cap, cur', rfl, h0, hh, n1, n2, n3, n4⟩
      · simp [Value.ownBlock] at hg
      · simp [Value.ownBlock] at hg
        subst hg
        have q : Row w g' 5 cur'.toList := by unfold Row; simpa using hh
        obtain rfl := q.uniq hk
        have hbc : bc (l.set j x) = (bc l).set j (.int .u8 x) := by unfold bc; rw [List.map_set]
        have hn : (bc (l.set j x)).length = (bc l).length := by rw [hbc, List.length_set]
        show World.ownsRow _ 0 _ 1 _ (bc (l.set j x)).length _
        rw [hn, hbc]
        refine ⟨by simp, .inr ⟨g', cap, (cur'.toList.set j (.int .u8 x)).toArray, rfl, h0, hk', n1, n2, by simpa using n3, ?_⟩⟩
        rw [List.toList_toArray, List.take_set, n4]
    · rcases List.mem_or_eq_of_mem_set hz with hz | rfl
      · exact hb z hz
      · exact hx
  · refine ⟨l, rfl, h.1.grown hg' (fun j hj => ?_), h.2.1, h.2.2⟩
    cases hj
    exact hg
/-- Rows that stay as they are, and texts of the call's own of which only the length stays. -/
structure Zap (B : Nat) (w0 w : World) (rs : List (Nat × TypeId × List Value)) (ts : List (Value × Nat)) : Prop where
  bel : Below B w0 w
  low : B ≤ w0.heap.size
  row : ∀ r ∈ rs, r.2.1 ≠ 5 ∧ Row w r.1 r.2.1 r.2.2
  txt : ∀ p ∈ ts, ∃ l : List Int, l.length = p.2 ∧ OT (From B) w p.1 l
/-- A text of them, at a place. -/
theorem Zap.at {B : Nat} {w0 w : World} {rs : List (Nat × TypeId × List Value)} {ts : List (Value × Nat)} (h : Zap B w0 w rs ts) {v : Value} {n : Nat} (hv : (v, n) ∈ ts) {j : Nat} (hj : j < n) :
    ∃ (k cap : Nat) (cur : List Value) (y : Int), v = .slice (some ⟨k, 0, none⟩) n cap ∧ n ≤ cap ∧ cap ≤ maxLen ∧ B ≤ k ∧ Row w k 5 cur ∧ j < cur.length ∧ cur[j]? = some (.int .u8 y) ∧ 0 ≤ y ∧ y ≤ 255 := by
  obtain ⟨l, hl, hown, hb, hG⟩ := h.txt _ hv
  have hl' : l.length = n := hl
  obtain ⟨h1, h2⟩ := hown
  rcases h2 with ⟨_, h3⟩ | ⟨k, cap, cur, e, _, hh, n1, n2, n3, n4⟩
  · rw [bc_len] at h3; omega
  · have e' : v = .slice (some ⟨k, 0, none⟩) (bc l).length cap := e
    rw [bc_len, hl'] at e'
    have hy : (bc l)[j]? = some (.int .u8 l[j]) := by rw [bc_at, List.getElem?_eq_getElem (by omega)]; rfl
    rw [← n4, List.getElem?_take] at hy
    rw [bc_len] at n1 hy
    split at hy
    · refine ⟨k, cap, cur.toList, l[j], e', by omega, n2, hG k (by rw [e']; rfl), by unfold Row; simpa using hh, (List.getElem?_eq_some_iff.1 hy).1, hy, hb _ (List.getElem_mem _)⟩
    · cases hy
theorem Zap.set {B : Nat} {w0 w w' : World} {rs : List (Nat × TypeId × List Value)} {ts : List (Value × Nat)} (h : Zap B w0 w rs ts) {k j : Nat} {cur : List Value} {x : Int} (hB : B ≤ k) (hk : Row w k 5 cur) (hk' : Row w' k 5 (cur.set j (.int .u8 x))) (hg' : w.grownBy w' (some k)) (hx : 0 ≤ x ∧ x ≤ 255) : Zap B w0 w' rs ts := by
  refine ⟨h.bel.trans (grown_below hg' (Nat.le_trans h.low h.bel.size) (fun q hq => by cases hq; exact hB)), h.low, fun r hr => ⟨(h.row r hr).1, (h.row r hr).2.grown hg' (fun e => ?_)⟩, fun p hp => ?_⟩
  · injection e with e
    exact (h.row r hr).2.apart hk (h.row r hr).1 e.symm
  · obtain ⟨l, hl, ho⟩ := h.txt p hp
    obtain ⟨l', hl', ho'⟩ := ho.byteR hk hk' hg' hx
    exact ⟨l', hl'.trans hl, ho'⟩
/-- A list that was built, and what else stays. -/
theorem Zap.of {B : Nat} {w0 w : World} {v : Value} {ys : List PEnt} (h : LB OEnt 37 2 B w v ys) (hb : Below B w0 w) (hl : B ≤ w0.heap.size) {b : Nat} {t : TypeId} {xs : List Value} (ht : t ≠ 5) (hr : Row w b t xs) {xv : Value} {xl : List Int} (hx : OT (From B) w xv xl) :
    ∃ ao cap rs ts, v = .slice ao ys.length cap ∧ ys.length ≤ cap ∧ cap ≤ maxLen ∧ Zap B w0 w ((b, t, xs) :: rs) ((xv, xl.length) :: ts) ∧
      ∀ i, i < ys.length → ∃ g cur a mm, ao = some ⟨g, 0, none⟩ ∧ (g, 37, cur) ∈ rs ∧ cur[i * 2 + 1]? = some a ∧ (a, mm) ∈ ts := by
  have base : Zap B w0 w [(b, t, xs)] [(xv, xl.length)] := ⟨hb, hl, fun r hr' => by simp at hr'; subst hr'; exact ⟨ht, hr⟩, fun p hp => by simp at hp; subst hp; exact ⟨xl, rfl, hx⟩⟩
  rcases Nat.eq_zero_or_pos ys.length with h0 | hp
  · obtain ⟨ao, cap, e, hc⟩ := (Rp.rl h).form
    obtain ⟨rows, hown⟩ := h.len
    refine ⟨ao, cap, [], [], e, by omega, ?_, base, fun i hi => by omega⟩
    rcases hown.2 with ⟨e2, _⟩ | ⟨g, cap', cur, e2, _, _, _, h5, _⟩
    · rw [e2] at e; simp at e; omega
    · rw [e2] at e; simp at e; omega
  · obtain ⟨g, cap, cur, rows, e, hrow, h2, h3, h4, h5, h6, h7, h8, h9⟩ := h.opn hp
    refine ⟨some ⟨g, 0, none⟩, cap, [(g, 37, cur)], (rows.zip ys).map fun p => (p.1.getD 1 (.bool true), p.2.2.length), e, h3, h4, ⟨hb, hl, fun r hr' => ?_, fun p hp => ?_⟩, fun i hi => ?_⟩
    · simp only [List.mem_cons, List.not_mem_nil, or_false] at hr'
      rcases hr' with rfl | rfl
      · exact ⟨ht, hr⟩
      · exact ⟨by show (37 : Nat) ≠ 5; decide, hrow⟩
    · rcases List.mem_cons.1 hp with rfl | hp
      · exact ⟨xl, rfl, hx⟩
      · obtain ⟨⟨r, y⟩, hm, rfl⟩ := List.mem_map.1 hp
        obtain ⟨i, hi, he⟩ := List.getElem_of_mem hm
        rw [List.getElem_zip] at he
        injection he with e1 e2
        rw [List.length_zip] at hi
        obtain ⟨a, c, er, o1, o2⟩ := h9.get (List.getElem?_eq_getElem (by omega : i < rows.length)) (List.getElem?_eq_getElem (by omega : i < ys.length))
        rw [e1] at er
        rw [e2] at o2
        refine ⟨y.2, rfl, ?_⟩
        show OT (From B) w (r.getD 1 (.bool true)) y.2
        rw [er]
        exact o2.mv fun k hk _ => ⟨rfl, hk.1⟩
    · obtain ⟨a, c, er, o1, o2⟩ := h9.get (List.getElem?_eq_getElem (by omega : i < rows.length)) (List.getElem?_eq_getElem (by omega : i < ys.length))
      refine ⟨g, cur, c, ys[i].2.length, rfl, by simp, ?_, ?_⟩
      · have := flat_at (j := 1) h7 (List.getElem?_eq_getElem (by omega : i < rows.length)) (by rw [er]; rfl)
        rw [← h8, List.getElem?_take, if_pos (by omega)] at this
        exact this
      · refine List.mem_map.2 ⟨(rows[i], ys[i]), ?_, by rw [er]; rfl⟩
        rw [← List.getElem_zip (h := by rw [List.length_zip]; omega)]
        exact List.getElem_mem _
end Go.Proofs.Ytbnioibeckifbaa
