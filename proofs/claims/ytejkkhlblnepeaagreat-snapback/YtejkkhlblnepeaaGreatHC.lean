/- The walks over package lease: add; what a store does to a list of leases that was built. -/
import Derived.Test.YtejkkhlblnepeaaGreatHA
import Derived.Test.YtejkkhlblnepeaaGreatKo
import Derived.Test.YtejkkhlblnepeaaGreatKr
import Derived.BigQuiet
section
set_option linter.unusedVariables false
set_option linter.unusedSimpArgs false
namespace Go.Proofs.YtejkkhlblnepeaaGreat
open Go.RowKit Oct Kvl

/-- The test: is it over? -/
theorem over_any (w : World) (r : List Value) (x : PEnt) (h : RLea Any w r x) (nb : Nat) (now : Int) (hc : w.cell? ⟨nb, 0, none⟩ = some (.int .i64 now)) :
    Calls Tryz.prog 114 #[.agg r.toArray, .pointer (some ⟨nb, 0, none⟩)] w fun e w' => e = .returned (.bool (decide (lu x.2 ≤ now))) ∧ Below w.heap.size w w' := by
  obtain ⟨a, p, q, rfl, ha, hx⟩ := h
  have hq : lu x.2 = q := by rw [hx]; rfl
  rw [hq]
  have B0 := below_alloc w (.cells #[a, .int .i64 p, .int .i64 q] 84)
  have c0 := (Row.new w 84 [a, .int .i64 p, .int .i64 q]).cell (j := 2) rfl
  have c1 : (w.alloc (.cells #[a, .int .i64 p, .int .i64 q] 84)).cell? ⟨nb, 0, none⟩ = some (.int .i64 now) := keepE B0 hc
  clear hx hq
  go_enter Tryz.func114, Tryz.ntmps114
  go_wp2_with fail
  go_ret
  exact ⟨rfl, B0⟩

/-- The first that is over, or none. -/
def ixP (now : Int) (ys : List PEnt) (k : Int) : Prop := (k = -1 ∧ ∀ y ∈ ys, now < lu y.2) ∨ ∃ i : Nat, k = i ∧ i < ys.length ∧ (∀ (j : Nat) (y : PEnt), j < i → ys[j]? = some y → now < lu y.2) ∧ ∀ y, ys[i]? = some y → ¬ now < lu y.2
set_option maxRecDepth 10000 in
set_option maxHeartbeats 2000000 in
/-- slices.IndexFunc. -/
theorem index_any (w : World) (v : Value) (ys : List PEnt) (h : RL RLea 3 Any w v ys) (hl : 0 < ys.length) (hz : ys.length ≤ 64) (nb : Nat) (now : Int) (hc : w.cell? ⟨nb, 0, none⟩ = some (.int .i64 now)) :
    Calls Tryz.prog 127 #[v, .func (.func 114) #[] #[.pointer (some ⟨nb, 0, none⟩)]] w fun e w' => ∃ k : Int, e = .returned (.int .i64 k) ∧ Below w.heap.size w w' ∧
      ixP now ys k := by
  obtain ⟨b, off, cap, rfl, hcap, hm, _, hb, hx⟩ := h.at hl
  have HX := (show Hid (∀ (i : Nat) (a : PEnt), ys[i]? = some a → ∃ s1 p1 q1, w.rangeAt b (off + i * 3) [s1, .int .i64 p1, .int .i64 q1] ∧ ∀ u, Below w.heap.size w u → Calls Tryz.prog 114 #[.agg #[s1, .int .i64 p1, .int .i64 q1], .pointer (some ⟨nb, 0, none⟩)] u fun e w' => e = .returned (.bool (decide (lu a.2 ≤ now))) ∧ Below u.heap.size u w') from fun i a ha => by
    obtain ⟨r, _, hr, s1, p1, q1, rfl, t1, t2⟩ := hx i a ha
    exact ⟨s1, p1, q1, hr, fun u hu => over_any u [s1, .int .i64 p1, .int .i64 q1] a (mov_lea _ _ _ _ _ _ ⟨_, _, _, rfl, t1, t2⟩ hu.size (Mv.below hu)) nb now (keepE hu hc)⟩)
  clear hx h
  obtain ⟨N, hN⟩ : ∃ N, N = ys.length := ⟨_, rfl⟩
  rw [← hN] at hl hcap hz ⊢
  have HN := (show Hid (ys.length = N) from hN.symm)
  clear hN
  go_enter Tryz.func127, Tryz.ntmps127
  go_wp2_with fail
  go_loopw [8] (fun i wr => ∃ q : Nat, q ≤ N ∧ i = .int .i64 q ∧ Below w.heap.size w wr ∧ Hid (∀ (j : Nat) (y : PEnt), j < q → ys[j]? = some y → now < lu y.2)) (fun i _ => N - (intOf i).toNat)
  case atStart => exact ⟨0, Nat.zero_le _, rfl, Below.refl _ _, fun j y hj => by omega⟩
  case round =>
    obtain ⟨q, hq, rfl, hB, hI⟩ := hrel
    by_cases hql : q < N
    · obtain ⟨x, hx⟩ : ∃ x, ys[q]? = some x := ⟨_, List.getElem?_eq_getElem (by have := HN.out; omega)⟩
      obtain ⟨s1, p1, q1, hrng, hcall⟩ := HX.out q x hx
      have hrng := rangeAt_block hrng (hB.block b hb)
      have hc1 := hcall wr hB
      have HXX := (show Hid (ys[q]? = some x) from hx)
      clear hx hcall
      by_cases ho : lu x.2 ≤ now
      · rw [decide_eq_true ho] at hc1
        go_wp2_with (first
          | (refine wpList_load_mid rfl _ _ rfl b (off + q * 3) rfl [s1, .int .i64 p1, .int .i64 q1] _ hrng Tryz.underlying84 rfl (by kernel_rfl) ?_)
          | (go_at_call 114; refine hc1.mono ?_; rintro e w2 ⟨rfl, hb2⟩))
        go_ret
        refine ⟨_, rfl, below_and hB (Nat.le_refl _) hb2, .inr ⟨q, rfl, by rw [HN.out]; exact hql, hI.out, fun y hy => ?_⟩⟩
        rw [HXX.out] at hy
        cases hy
        omega
      · rw [decide_eq_false ho] at hc1
        go_wp2_with (first
          | (refine wpList_load_mid rfl _ _ rfl b (off + q * 3) rfl [s1, .int .i64 p1, .int .i64 q1] _ hrng Tryz.underlying84 rfl (by kernel_rfl) ?_)
          | (go_at_call 114; refine hc1.mono ?_; rintro e w2 ⟨rfl, hb2⟩))
        go_roundw
        case rel =>
          refine ⟨q + 1, by omega, by go_num, below_and hB (Nat.le_refl _) hb2, fun j y hj hy => ?_⟩
          rcases Nat.lt_or_ge j q with h1 | h1
          · exact hI.out j y h1 hy
          · obtain rfl : j = q := by omega
            rw [HXX.out] at hy
            cases hy
            omega
        case measure => simp [intOf]; omega
    · have hqd : decide ((q : Int) < N) = false := by simp; omega
      go_wp2_with fail
      go_ret
      refine ⟨-1, rfl, hB, .inl ⟨rfl, fun y hy => ?_⟩⟩
      obtain ⟨j, hj, rfl⟩ := List.getElem_of_mem hy
      exact hI.out j _ (by have := HN.out; omega) (List.getElem?_eq_getElem hj)
end Go.Proofs.YtejkkhlblnepeaaGreat
end

section
set_option linter.unusedVariables false
set_option linter.unusedSimpArgs false
namespace Go.Proofs.YtejkkhlblnepeaaGreat
open Go.RowKit Oct Kvl

theorem spl_take (C r : List Value) (p : Nat) (h : p + r.length ≤ C.length) : (splice C p r).take (p + r.length) = C.take p ++ r := by
  have h2 : (C.take p).length = p := by rw [List.length_take]; omega
  unfold splice
  rw [← List.append_assoc, List.take_append_of_le_length (by simp only [List.length_append, h2]; omega), List.take_of_length_le (by simp only [List.length_append, h2]; omega)]
theorem spl_front (C r : List Value) (p m : Nat) (h : p ≤ C.length) (hm : m ≤ p) : (splice C p r).take m = C.take m := by
  have h2 : (C.take p).length = p := by rw [List.length_take]; omega
  unfold splice
  rw [List.take_append_of_le_length (by omega), List.take_take, Nat.min_eq_left hm]
theorem spl_far (C r : List Value) (p t : Nat) (h : p + r.length ≤ C.length) (ht : p + r.length ≤ t) : (splice C p r)[t]? = C[t]? := by
  have h2 : (C.take p).length = p := by rw [List.length_take]; omega
  unfold splice
  rw [List.getElem?_append_right (by omega), List.getElem?_append_right (by omega), List.getElem?_drop, h2]
  congr 1
  omega
theorem zeroN_one {zs : List Value} (h1 : ∀ v ∈ zs, v.oneCell' = true) (h0 : 0 < zs.length) (n : Nat) : ∀ v ∈ (Builtin.zeroCells zs.toArray n).toList, v.oneCell' = true := by
  intro v hv
  have hv' : v ∈ Builtin.zeroCells zs.toArray n := by simpa using hv
  unfold Builtin.zeroCells at hv'
  obtain ⟨i, _, rfl⟩ := Array.mem_map.1 hv'
  have hlt : i % zs.toArray.size < zs.length := by simpa using Nat.mod_lt i h0
  refine h1 _ ?_
  have e : zs.toArray[i % zs.toArray.size]! = zs[i % zs.toArray.size] := by
    rw [getElem!_pos zs.toArray _ (by simpa using hlt)]
    simp
  rw [e]
  exact List.getElem_mem _
section
variable {P : Program}
/-- 'clear(s)' of records in a row. -/
theorem wl_clearN {ops : Array Oper} {rest : List Oper} {o : Oper} {a : Act} {w : World} {Q : Exit → Act → World → Prop} (hgd : o.guard = none) (s : Operand) (T : TypeId)
    (ho : o.op = .call { callee := .builtin .clear, args := #[s], argTypes := #[T] }) (elem : TypeId) (i : TypeInfo) (z : Value) (zs : List Value) (hu : P.underlying T = some (.slice elem)) (hi : P.info? elem = some i) (hz : i.zero = some z) (hzc : z.cells = zs.toArray) (h0 : 0 < zs.length)
    (n cap g off : Nat) (hn : 0 < n) (hs : a.eval s = .slice (some ⟨g, off, none⟩) n cap) (cur : List Value) (t : TypeId) (hg : Row w g t cur) (hfit : off + n * zs.length ≤ cur.length) (h1 : ∀ v ∈ zs, v.oneCell' = true)
    (k : ∀ w' zz, Hid (zz.length = n * zs.length) → Hid (Row w' g t (splice cur off zz)) → w.grownBy w' (some g) → wpList P ops Q rest (a.put o.dst (.tuple #[])) w') : wpList P ops Q (o :: rest) a w :=
  wpList_plain hgd fun _ hK => by
    obtain ⟨m, rfl⟩ : ∃ m, n = m + 1 := ⟨n - 1, by omega⟩
    have hsz : (Builtin.zeroCells zs.toArray (m + 1)).toList.length = (m + 1) * zs.length := by rw [Array.length_toList, size_zeroCells]; simp
    have hst := run_storeCells_at P g off t (Builtin.zeroCells zs.toArray (m + 1)).toList 0 cur.toArray w hg (by rw [hsz]; simpa using hfit) (zeroN_one h1 h0 _)
    unfold Oper.wp
    have hr : (Builtin.clear_ #[T] o.type #[.slice (some ⟨g, off, none⟩) (m + 1) cap]).run P w = .ok (.tuple #[]) (w.setRow g (splice cur off (Builtin.zeroCells zs.toArray (m + 1)).toList).toArray) := by
      simp [Builtin.clear_, run_underlying hu, zeroValue, typeInfo, hi, hz, hzc, hst, splice]
    simp [execOp, ho, resolve, invoke, builtin, hs, hr, Result.andThen]
    exact hK _ _ (k _ _ hsz (hg.setRow _) (grown_setRow _ _ _))
end
/-- Of a lease's cells: it isn't over. -/
def lvr (now : Int) (r : List Value) : Bool := match r with | [_, _, Value.int _ q] => decide (now < q) | _ => false
theorem lvr_lea {G : Nat → Prop} {w : World} {r : List Value} {x : PEnt} {now : Int} (h : OLea G w r x) : lvr now r = decide (now < lu x.2) := by
  obtain ⟨a, p, q, rfl, _, hx⟩ := h
  rw [hx]
  rfl
theorem All2.filt {α β : Type} {R : α → β → Prop} {p : α → Bool} {q : β → Bool} : ∀ {xs : List α} {zs : List β}, All2 R xs zs → (∀ x z, R x z → p x = q z) → All2 R (xs.filter p) (zs.filter q)
  | [], [], _, _ => trivial
  | x :: xs, z :: zs, h, hp => by
    have ih := All2.filt (xs := xs) (zs := zs) h.2 hp
    rw [List.filter_cons, List.filter_cons, hp x z h.1]
    split
    · exact ⟨h.1, ih⟩
    · exact ih
  | [], _ :: _, h, _ => h.elim
  | _ :: _, [], h, _ => h.elim
/-- A row of which what is kept of the first j has gone to the front. -/
structure Kep (g n cap i j : Nat) (now : Int) (w0 w : World) (cur : List Value) (rows : List (List Value)) : Prop where
  grw : w0.grownBy w (some g)
  ex : ∃ cur', Row w g 84 cur' ∧ cur'.length = cap * 3 ∧ cur'.take (i * 3) = ((rows.take j).filter (lvr now)).flatten ∧ ∀ t, j * 3 ≤ t → cur'[t]? = cur[t]?
  len : ((rows.take j).filter (lvr now)).length = i
theorem Kep.row {g n cap i j : Nat} {now : Int} {w0 w : World} {cur : List Value} {rows : List (List Value)} (h : Kep g n cap i j now w0 w cur rows) (h0 : ∀ r ∈ rows, r.length = 3) (hn : rows.length = n) (ht : cur.take (n * 3) = rows.flatten) (hj : j < n) {r : List Value} (hr : rows[j]? = some r) : w.rangeAt g (j * 3) r := by
  obtain ⟨cur', h1, h2, h3, h4⟩ := h.ex
  intro t v hv
  refine h1.cell ?_
  rw [h4 _ (by omega)]
  have := flat_at h0 hr hv
  have hl := h0 r (List.mem_of_getElem? hr)
  have htl : t < 3 := by rw [← hl]; exact (List.getElem?_eq_some_iff.1 hv).1
  rw [← ht, List.getElem?_take, if_pos (by omega)] at this
  exact this
theorem Kep.skip {g n cap i j : Nat} {now : Int} {w0 w w1 : World} {cur : List Value} {rows : List (List Value)} (h : Kep g n cap i j now w0 w cur rows) {r : List Value} (hr : rows[j]? = some r) (hp : lvr now r = false) (hb : Below w.heap.size w w1) : Kep g n cap i (j + 1) now w0 w1 cur rows := by
  have e : (rows.take (j + 1)).filter (lvr now) = (rows.take j).filter (lvr now) := by
    rw [List.take_add_one, hr, Option.toList_some, List.filter_append, List.filter_cons, hp]
    simp
  refine ⟨grown_trans h.grw (grown_of_below hb _) (.inl rfl), ?_, by rw [e]; exact h.len⟩
  obtain ⟨cur', h1, h2, h3, h4⟩ := h.ex
  exact ⟨cur', h1.below hb, h2, by rw [e]; exact h3, fun t ht => h4 t (by omega)⟩
theorem Kep.take {g n cap i j : Nat} {now : Int} {w0 w w1 w2 : World} {cur : List Value} {rows : List (List Value)} (h : Kep g n cap i j now w0 w cur rows) {r : List Value} (hr : rows[j]? = some r) (hl : r.length = 3) (hp : lvr now r = true) (hij : i < j) (hjc : j < cap) (hb : Below w.heap.size w w1) {cur0 : List Value} (hc0 : Row w1 g 84 cur0) (hg2 : w1.grownBy w2 (some g)) (hr2 : Row w2 g 84 (splice cur0 (i * 3) r)) : Kep g n cap (i + 1) (j + 1) now w0 w2 cur rows := by
  have e : (rows.take (j + 1)).filter (lvr now) = (rows.take j).filter (lvr now) ++ [r] := by
    rw [List.take_add_one, hr, Option.toList_some, List.filter_append, List.filter_cons, hp]
    simp
  obtain ⟨cur', h1, h2, h3, h4⟩ := h.ex
  obtain rfl : cur' = cur0 := (h1.below hb).uniq hc0
  refine ⟨grown_trans (grown_trans h.grw (grown_of_below hb _) (.inl rfl)) hg2 (.inl rfl), ⟨_, hr2, ?_, ?_, fun t ht => ?_⟩, by rw [e, List.length_append, h.len]; rfl⟩
  · rw [length_splice _ _ _ (by omega), h2]
  · have := spl_take cur' r (i * 3) (by omega)
    rw [hl] at this
    rw [show (i + 1) * 3 = i * 3 + 3 by omega, this, h3, e, List.flatten_append]
    simp
  · rw [spl_far _ _ _ _ (by omega) (by omega)]
    exact h4 t (by omega)
theorem Kep.first {g n cap i : Nat} {now : Int} {w0 w : World} {cur : List Value} {rows : List (List Value)} (hb : Below w0.heap.size w0 w) (hrow : Row w0 g 84 cur) (hcl : cur.length = cap * 3) (h0 : ∀ r ∈ rows, r.length = 3) (hn : rows.length = n) (hnc : n ≤ cap) (ht : cur.take (n * 3) = rows.flatten) (hi : i < n) (h1 : ∀ (j : Nat) (r : List Value), j < i → rows[j]? = some r → lvr now r = true) (h2 : ∀ r, rows[i]? = some r → lvr now r = false) : Kep g n cap i (i + 1) now w0 w cur rows := by
  have e1 : (rows.take i).filter (lvr now) = rows.take i := by
    rw [List.filter_eq_self]
    intro r hr
    obtain ⟨j, hj, rfl⟩ := List.getElem_of_mem hr
    rw [List.length_take] at hj
    exact h1 j _ (by omega) (by rw [List.getElem_take, List.getElem?_eq_getElem])
  obtain ⟨r, hr⟩ : ∃ r, rows[i]? = some r := ⟨_, List.getElem?_eq_getElem (by omega)⟩
  have e : (rows.take (i + 1)).filter (lvr now) = rows.take i := by
    rw [List.take_add_one, hr, Option.toList_some, List.filter_append, List.filter_cons, h2 r hr, e1]
    simp
  refine ⟨grown_of_below hb _, ⟨cur, hrow.below hb, hcl, ?_, fun t _ => rfl⟩, by rw [e, List.length_take]; omega⟩
  rw [e, ← flat_take h0 i (by omega), ← ht, List.take_take, Nat.min_eq_left (by omega)]

set_option maxRecDepth 100000 in
set_option maxHeartbeats 4000000 in
/-- slices.DeleteFunc. -/
theorem deleteF_row (w : World) (B g cap n : Nat) (cur : List Value) (rows : List (List Value)) (ys : List PEnt) (hrow : Row w g 84 cur) (hcl : cur.length = cap * 3) (h0 : ∀ r ∈ rows, r.length = 3) (hn : rows.length = n) (hp : 0 < n) (ht : cur.take (n * 3) = rows.flatten) (hroom : n ≤ cap) (hcap : cap ≤ maxLen) (hn64 : n ≤ 64)
    (hall : All2 (OLea (fun b => B ≤ b ∧ b ≠ g) w) rows ys) (hRL : RL RLea 3 Any w (.slice (some ⟨g, 0, none⟩) n cap) ys) (nb : Nat) (now : Int) (hc : w.cell? ⟨nb, 0, none⟩ = some (.int .i64 now)) (hng : nb ≠ g) :
    Calls Tryz.prog 113 #[.slice (some ⟨g, 0, none⟩) n cap, .func (.func 114) #[] #[.pointer (some ⟨nb, 0, none⟩)]] w fun e w' =>
      ∃ m, e = .returned (.slice (some ⟨g, 0, none⟩) m cap) ∧ w.grownBy w' (some g) ∧ Hid (m ≤ n ∧ ∃ cur', Row w' g 84 cur' ∧ cur'.length = cap * 3 ∧ (rows.filter (lvr now)).length = m ∧ cur'.take (m * 3) = (rows.filter (lvr now)).flatten) := by
  have hlen := hall.len
  have hI := index_any w _ ys hRL (by omega) (by omega) nb now hc
  obtain ⟨i0, hi0, hz0, hzs, hzb⟩ := info_parts Tryz.infL
  go_enter Tryz.func113, Tryz.ntmps113
  go_wp2_with fail
  refine hI.mono ?_
  rintro e w1 ⟨k, rfl, hb1, hk⟩
  clear hI
  have hlr : ∀ (j : Nat) (r : List Value), rows[j]? = some r → ∃ y, ys[j]? = some y ∧ OLea (fun b => B ≤ b ∧ b ≠ g) w r y := fun j r hr => by
    obtain ⟨y, hy⟩ : ∃ y, ys[j]? = some y := ⟨_, List.getElem?_eq_getElem (by have := (List.getElem?_eq_some_iff.1 hr).1; omega)⟩
    exact ⟨y, hy, hall.get hr hy⟩
  have HLR := (show Hid (∀ (j : Nat) (r : List Value), rows[j]? = some r → ∃ y, ys[j]? = some y ∧ OLea (fun b => B ≤ b ∧ b ≠ g) w r y) from hlr)
  rcases hk with ⟨rfl, hk⟩ | ⟨i, rfl, hi, hk1, hk2⟩
  · have HF := (show Hid (rows.filter (lvr now) = rows) by
      show _ = _
      rw [List.filter_eq_self]
      intro r hr
      obtain ⟨j, hj, rfl⟩ := List.getElem_of_mem hr
      obtain ⟨y, hy, ho⟩ := hlr j _ (List.getElem?_eq_getElem hj)
      rw [lvr_lea ho]
      exact decide_eq_true (hk y (List.mem_of_getElem? hy)))
    have HT := (show Hid (Row w g 84 cur ∧ cur.length = cap * 3 ∧ rows.length = n ∧ cur.take (n * 3) = rows.flatten) from ⟨hrow, hcl, hn, ht⟩)
    clear hlr hk hrow hcl hn ht hall hlen
    go_wp2_with fail
    go_ret
    refine ⟨_, rfl, grown_of_below hb1 _, Nat.le_refl _, cur, HT.out.1.below hb1, HT.out.2.1, ?_, ?_⟩
    · rw [HF.out]; exact HT.out.2.2.1
    · rw [HF.out]; exact HT.out.2.2.2
  have hin : i < n := by omega
  have hK0 : Kep g n cap i (i + 1) now w w1 cur rows := by
    refine Kep.first hb1 hrow hcl h0 hn hroom ht hin (fun j r hj hr => ?_) (fun r hr => ?_)
    · obtain ⟨y, hy, ho⟩ := hlr j r hr
      rw [lvr_lea ho]
      exact decide_eq_true (hk1 j y hj hy)
    · obtain ⟨y, hy, ho⟩ := hlr i r hr
      rw [lvr_lea ho]
      exact decide_eq_false (hk2 y hy)
  have HK0 := (show Hid (Kep g n cap i (i + 1) now w w1 cur rows) from hK0)
  have HT := (show Hid ((∀ r ∈ rows, r.length = 3) ∧ rows.length = n ∧ cur.take (n * 3) = rows.flatten) from ⟨h0, hn, ht⟩)
  have hcm : (cap : Int) ≤ 9223372036854775807 := by unfold maxLen at hcap; omega
  have hk1' : ((i : Int) == -1) = false := by simp
  clear hlr hK0 hk1 hk2 hrow hcl h0 hn ht hall hlen hRL hi
  go_wp2_with fail
  go_loopw [5, 6] (fun s5 s6 wr => ∃ p q : Nat, s5 = .int .i64 p ∧ s6 = .int .i64 q ∧ q ≤ n ∧ p < q ∧ Hid (Kep g n cap p q now w wr cur rows)) (fun _ s6 _ => n - (intOf s6).toNat)
  case atStart => exact ⟨i, i + 1, rfl, by go_num, by omega, by omega, HK0⟩
  case round =>
    clear HK0
    obtain ⟨p, q, rfl, rfl, hq, hpq, HK⟩ := hrel
    by_cases hql : q < n
    · obtain ⟨r, hr⟩ : ∃ r, rows[q]? = some r := ⟨_, List.getElem?_eq_getElem (by have := HT.out.2.1; omega)⟩
      have hrng := HK.out.row HT.out.1 HT.out.2.1 HT.out.2.2 hql hr
      obtain ⟨y, hy, ho⟩ := HLR.out q r hr
      have hlv := lvr_lea (now := now) ho
      obtain ⟨s1, p1, q1, rfl, t1, t2⟩ := ho
      have hgr := HK.out.grw
      have hcr : wr.cell? ⟨nb, 0, none⟩ = some (.int .i64 now) := grown_cellE hgr hc (fun e => hng (Option.some.inj e).symm)
      have hlea : RLea Any wr [s1, .int .i64 p1, .int .i64 q1] y := ⟨_, _, _, rfl, (t1.mv (G' := Any) (fun k hk hlt => ⟨hgr.block k hlt (fun e => hk.2 (Option.some.inj e)), trivial⟩)).rt, t2⟩
      have hone := onL3 (p := p1) (q := q1) t1.one
      have hrow0 := Row.new wr 84 [.slice none 0 0, .int .i64 0, .int .i64 0]
      have HR := (show Hid (rows[q]? = some [s1, .int .i64 p1, .int .i64 q1]) from hr)
      obtain ⟨cur0, k1, k2, _⟩ := HK.out.ex
      have K1 := (show Hid (Row wr g 84 cur0) from k1)
      have hgl := k1.lt
      have hfit : p * 3 + 3 ≤ cur0.length := by omega
      clear hr hy t1 t2 k1 k2
      by_cases hov : lu y.2 ≤ now
      · have HLV := (show Hid (lvr now [s1, .int .i64 p1, .int .i64 q1] = false) by show _ = _; rw [hlv]; exact decide_eq_false (by omega))
        have HC := (show Hid (∀ u, Below wr.heap.size wr u → Calls Tryz.prog 114 #[.agg #[s1, .int .i64 p1, .int .i64 q1], .pointer (some ⟨nb, 0, none⟩)] u fun e w' => e = .returned (.bool true) ∧ Below u.heap.size u w') from fun u hu => by
          have := over_any u _ y (mov_lea _ _ _ _ _ _ hlea hu.size (Mv.below hu)) nb now (keepE hu hcr)
          rw [decide_eq_true hov] at this
          exact this)
        clear hlv
        go_wp2_with (first
          | (refine wpList_load_mid rfl _ _ rfl g (q * 3) rfl [s1, .int .i64 p1, .int .i64 q1] _ hrng Tryz.underlying84 rfl (by kernel_rfl) ?_)
          | (refine wl_store rfl _ _ _ rfl wr.heap.size [s1, .int .i64 p1, .int .i64 q1] rfl rfl _ _ hrow0 rfl (by kernel_rfl) hone ?_; intro w5 hr5 hg5; have hb5 : Below wr.heap.size wr w5 := (below_alloc wr _).trans (grown_below hg5 (by simp) (fun k hk => by cases hk; exact Nat.le_refl _)))
          | (refine wl_load rfl _ _ rfl wr.heap.size rfl _ _ hr5.out _ Tryz.underlying84 rfl (by kernel_rfl) ?_)
          | (go_at_call 114; refine (HC.out w5 hb5).mono ?_; rintro e w6 ⟨rfl, hb6⟩))
        go_roundw
        case rel => exact ⟨p, q + 1, rfl, by go_num, by omega, by omega, HK.out.skip HR.out HLV.out (below_and hb5 (Nat.le_refl _) hb6)⟩
        case measure => simp [intOf]; omega
      · have HLV := (show Hid (lvr now [s1, .int .i64 p1, .int .i64 q1] = true) by show _ = _; rw [hlv]; exact decide_eq_true (by omega))
        have HC := (show Hid (∀ u, Below wr.heap.size wr u → Calls Tryz.prog 114 #[.agg #[s1, .int .i64 p1, .int .i64 q1], .pointer (some ⟨nb, 0, none⟩)] u fun e w' => e = .returned (.bool false) ∧ Below u.heap.size u w') from fun u hu => by
          have := over_any u _ y (mov_lea _ _ _ _ _ _ hlea hu.size (Mv.below hu)) nb now (keepE hu hcr)
          rw [decide_eq_false hov] at this
          exact this)
        clear hlv
        go_wp2_with (first
          | (refine wpList_load_mid rfl _ _ rfl g (q * 3) rfl [s1, .int .i64 p1, .int .i64 q1] _ hrng Tryz.underlying84 rfl (by kernel_rfl) ?_)
          | (refine wl_store rfl _ _ _ rfl wr.heap.size [s1, .int .i64 p1, .int .i64 q1] rfl rfl _ _ hrow0 rfl (by kernel_rfl) hone ?_; intro w5 hr5 hg5; have hb5 : Below wr.heap.size wr w5 := (below_alloc wr _).trans (grown_below hg5 (by simp) (fun k hk => by cases hk; exact Nat.le_refl _)))
          | (refine wl_load rfl _ _ rfl wr.heap.size rfl _ _ hr5.out _ Tryz.underlying84 rfl (by kernel_rfl) ?_)
          | (go_at_call 114; refine (HC.out w5 hb5).mono ?_; rintro e w6 ⟨rfl, hb6⟩; have k6 := K1.out.below (below_and hb5 (Nat.le_refl _) hb6); have hr6 := hr5.out.below hb6)
          | (refine wl_load rfl _ _ rfl wr.heap.size rfl _ _ hr6 _ Tryz.underlying84 rfl (by kernel_rfl) ?_)
          | (refine wl_put rfl _ _ _ rfl g (p * 3) [s1, .int .i64 p1, .int .i64 q1] rfl rfl _ _ k6 hfit (by kernel_rfl) hone ?_; intro w7 hr7 hg7))
        go_roundw
        case rel => exact ⟨p + 1, q + 1, by go_num, by go_num, by omega, by omega, HK.out.take HR.out rfl HLV.out hpq (by omega) (below_and hb5 (Nat.le_refl _) hb6) k6 hg7 hr7.out⟩
        case measure => simp [intOf]; omega
    · obtain rfl : q = n := by omega
      have hqd : decide ((q : Int) < q) = false := by simp
      obtain ⟨cur', k1, k2, k3, _⟩ := HK.out.ex
      have hgr := HK.out.grw
      have HTK := (show Hid (rows.take q = rows) from List.take_of_length_le (by have := HT.out.2.1; omega))
      have hfit : p * 3 + (q - p) * 3 ≤ cur'.length := by omega
      have hpc : ¬ (cap = p) := by omega
      have hpi : (p : Int) ≤ (q : Int) := by omega
      have K2 := (show Hid (cur'.length = cap * 3 ∧ cur'.take (p * 3) = ((rows.take q).filter (lvr now)).flatten) from ⟨k2, k3⟩)
      clear k2 k3
      go_wp2_with (refine wl_clearN rfl _ _ rfl 84 i0 _ [.slice none 0 0, .int .i64 0, .int .i64 0] Tryz.underlying23 hi0 hz0 rfl (by decide) (q - p) (cap - p) g (p * 3) (by omega) (by simp [Act.eval]) _ _ k1 hfit (onL3 rfl) ?_; intro w8 zz hzz hr8 hg8)
      go_ret
      refine ⟨p, rfl, grown_trans hgr hg8 (.inl rfl), by omega, _, hr8.out, ?_, ?_, ?_⟩
      · have e3 : zz.length = (q - p) * 3 := hzz.out
        rw [length_splice _ _ _ (by omega)]; exact K2.out.1
      · rw [← HK.out.len, HTK.out]
      · rw [spl_front _ _ _ _ (by have := K2.out.1; omega) (Nat.le_refl _), K2.out.2, HTK.out]
end Go.Proofs.YtejkkhlblnepeaaGreat
end

section
set_option linter.unusedVariables false
set_option linter.unusedSimpArgs false
namespace Go.Proofs.YtejkkhlblnepeaaGreat
open Go.RowKit Oct Kvl

theorem LB.opnS {B : Nat} {w : World} {v : Value} {ys : List PEnt} (h : LB OLea 84 3 B w v ys) (hp : 0 < ys.length) : ∃ (g cap : Nat) (cur : List Value) (rows : List (List Value)), v = .slice (some ⟨g, 0, none⟩) ys.length cap ∧ Row w g 84 cur ∧ cur.length = cap * 3 ∧ ys.length ≤ cap ∧ cap ≤ maxLen ∧ B ≤ g ∧ rows.length = ys.length ∧ (∀ r ∈ rows, r.length = 3) ∧ cur.take (ys.length * 3) = rows.flatten ∧ All2 (OLea (fun b => B ≤ b ∧ b ≠ g) w) rows ys := by
  obtain ⟨rows, h0, hown, hfr, hall⟩ := h
  have hlen := hall.len
  rw [hlen] at hown
  rcases hown.2 with ⟨_, h4⟩ | ⟨g, cap, cur, rfl, _, hg, hc1, hc2, hc3, hc4⟩
  · omega
  · exact ⟨g, cap, cur.toList, rows, rfl, by unfold Row; simpa using hg, by simpa using hc3, hc1, hc2, hfr g rfl, hlen, h0, hc4, hall.mono fun q b hq => mov_olea _ _ _ _ _ _ hq (Nat.le_refl _) fun k hk _ => ⟨rfl, hk.1, fun e => hk.2 (by simp [Value.ownBlock, e])⟩⟩
theorem LB.mkS {B : Nat} {w : World} {ys : List PEnt} {g cap n : Nat} {cur : List Value} {rows : List (List Value)} (h1 : Row w g 84 cur) (h2 : cur.length = cap * 3) (h3 : n ≤ cap) (h4 : cap ≤ maxLen) (h5 : B ≤ g) (h6 : rows.length = n) (h7 : ∀ r ∈ rows, r.length = 3) (h8 : cur.take (n * 3) = rows.flatten)
    (h9 : All2 (OLea (fun b => B ≤ b ∧ b ≠ g) w) rows ys) : LB OLea 84 3 B w (.slice (some ⟨g, 0, none⟩) n cap) ys :=
  ⟨rows, h7, ⟨flat_len h7, .inr ⟨g, cap, cur.toArray, by rw [h6], Nat.zero_le _, h1, by omega, h4, by simpa using h2, by rw [h6]; simpa using h8⟩⟩, fr_at _ _ _ _ h5, h9.mono fun q b hq => mov_olea _ _ _ _ _ _ hq (Nat.le_refl _) fun k hk _ => ⟨rfl, hk.1, fun e => hk.2 (by simp [Value.ownBlock] at e; exact e.symm)⟩⟩
/-- What was built can be read. -/
theorem Rs.rl {B : Nat} {w : World} {v : Value} {ys : List PEnt} (h : LB OLea 84 3 B w v ys) : RL RLea 3 Any w v ys := (h.rl mov_olea).lea.mv mov_lea (Nat.le_refl _) Mv.any
theorem indexS_nil (w : World) (ao : Option Addr) (cap : Nat) (f : Value) : Calls Tryz.prog 127 #[.slice ao 0 cap, f] w fun e w' => e = .returned (.int .i64 (-1)) ∧ w' = w := by
  go_enter Tryz.func127, Tryz.ntmps127
  go_wp2_with fail
  refine wp_loop_rounds 1 ?_; rw [rounds_succ]
  go_wp2_with fail
  go_ret
  exact ⟨rfl, rfl⟩
/-- slices.DeleteFunc. -/
theorem deleteF_any (w : World) (v : Value) (B : Nat) (ys : List PEnt) (h : LB OLea 84 3 B w v ys) (hn : ys.length ≤ 64) (nb : Nat) (now : Int) (tn : TypeId) (hc : Row w nb tn [.int .i64 now]) (htn : tn ≠ 84) :
    Calls Tryz.prog 113 #[v, .func (.func 114) #[] #[.pointer (some ⟨nb, 0, none⟩)]] w fun e w' => ∃ v', e = .returned v' ∧ LB OLea 84 3 B w' v' (liv now ys) ∧ w.grownBy w' v.ownBlock := by
  rcases Nat.eq_zero_or_pos ys.length with h0 | hp
  · obtain rfl : ys = [] := List.eq_nil_of_length_eq_zero h0
    obtain ⟨ao, cap, rfl, _⟩ := (Rs.rl h).form
    have hI := indexS_nil w ao cap (.func (.func 114) #[] #[.pointer (some ⟨nb, 0, none⟩)])
    have HL := (show Hid (LB OLea 84 3 B w (.slice ao ([] : List PEnt).length cap) []) from h)
    clear h
    go_enter Tryz.func113, Tryz.ntmps113
    go_wp2_with fail
    refine hI.mono ?_
    rintro e w1 ⟨rfl, rfl⟩
    go_wp2_with fail
    go_ret
    exact ⟨_, rfl, HL.out, grown_refl _ _⟩
  · have hRL := Rs.rl h
    obtain ⟨g, cap, cur, rows, rfl, k1, k2, k3, k4, k5, k6, k7, k8, k9⟩ := h.opnS hp
    refine (deleteF_row w B g cap ys.length cur rows ys k1 k2 k7 k6 hp k8 k3 k4 hn k9 hRL nb now (hc.cell (j := 0) rfl) (hc.apart k1 htn)).mono ?_
    rintro e w' ⟨m, rfl, hg, hm, cur', r1, r2, r3, r4⟩
    refine ⟨_, rfl, LB.mkS r1 r2 (by omega) k4 k5 r3 (fun r hr => k7 r (List.mem_filter.1 hr).1) r4 ?_, hg⟩
    exact All2.filt (k9.mono fun q b hq => mov_olea _ (fun b => B ≤ b ∧ b ≠ g) _ _ _ _ hq hg.size fun k hk hlt => ⟨hg.block k hlt (fun e => hk.2 (Option.some.inj e)), hk⟩) (fun r y hr => lvr_lea hr)

set_option maxRecDepth 10000 in
/-- lease.told. -/
theorem told_any (w : World) (r : List Value) (x : PEnt) (h : RLea Any w r x) (now : Int) (h1 : 0 ≤ lo x.2) (h2 : lo x.2 ≤ 2147483647) (h3 : 0 ≤ lu x.2 - now) (h4 : lu x.2 - now ≤ 2147483647) :
    Calls Tryz.prog 117 #[.agg r.toArray, .int .i64 now] w fun e w' => ∃ v', e = .returned v' ∧ OT (From w.heap.size) w' v' (tol x.2 now) ∧ Below w.heap.size w w' := by
  have le := Nat.le_refl w.heap.size
  obtain ⟨a, p, q, rfl, ha, hx⟩ := h
  have hp : lo x.2 = p := by rw [hx]; rfl
  have hq : lu x.2 = q := by rw [hx]; rfl
  unfold tol
  rw [hp] at h1 h2 ⊢
  rw [hq] at h3 h4 ⊢
  obtain ⟨w0, hw0⟩ : ∃ w0, w0 = w.alloc (.cells #[a, .int .i64 p, .int .i64 q] 84) := ⟨_, rfl⟩
  have ra : Row w0 w.heap.size 84 [a, .int .i64 p, .int .i64 q] := by rw [hw0]; exact Row.new w _ _
  have B0 : Below w.heap.size w w0 := by rw [hw0]; exact below_alloc _ _
  have i1 := int_any w0 p
  have i2 := fun u => int_any u (q - now)
  rw [errI_yes h1 h2, outI_yes h1 h2] at i1
  rw [errI_yes h3 h4, outI_yes h3 h4] at i2
  have bp := enc_byt p (by omega) (by omega)
  have bq := enc_byt (q - now) (by omega) (by omega)
  have ep := enc_len p
  have eq := enc_len (q - now)
  have c1 := ra.cell (j := 1) rfl
  have hwr : IntKind.i64.wrap (q - now) = q - now := wrapN (by omega) (by omega)
  have I2 := (show Hid (∀ u : World, Calls Tryz.prog 42 #[.int .i64 (q - now)] u fun e w' => ∃ v, e = .returned (.tuple #[v, .int .i64 0]) ∧ Own w' 5 v (bc (enc (q - now))) ∧ Fr u.heap.size v ∧ Below u.heap.size u w') from i2)
  clear i2 hx hp hq
  generalize enc p = TP at *
  generalize enc (q - now) = TQ at *
  go_enter Tryz.func117, Tryz.ntmps117
  go_upto_region 1 with fail
  rw [← hw0]
  clear hw0
  go_upto_region 2 with (go_at_call 42; refine i1.mono ?_; rintro e w2 ⟨v2, rfl, p2, f2, hb2⟩)
  have B2 := below_and B0 le hb2
  have x2 := ra.below hb2
  have c2 := x2.cell (j := 2) rfl
  have p2 := p2.rd bp
  obtain ⟨ax2, cx2, rfl, hcx2⟩ := p2.form
  clear c1 i1
  go_upto_region 3 with (go_at_call 42; refine (I2.out _).mono ?_; rintro e w3 ⟨v3, rfl, p3, f3, hb3⟩)
  have B3 := below_and B2 le hb3
  have p3 := p3.rd bq
  have p2 := p2.below hb3
  obtain ⟨ax3, cx3, rfl, hcx3⟩ := p3.form
  have hba := below_alloc w3 (.cells ([.slice ax2 TP.length cx2, .slice ax3 TQ.length cx3] : List Value).toArray 27)
  have hR : Rdl (w3.alloc (.cells ([.slice ax2 TP.length cx2, .slice ax3 TQ.length cx3] : List Value).toArray 27)) (.slice (some ⟨w3.heap.size, 0, none⟩) 2 2) [TP, TQ] :=
    ⟨[.slice ax2 TP.length cx2, .slice ax3 TQ.length cx3], rdv_lit w3 _ _ (by simp) (by simp), p2.below hba, p3.below hba, trivial⟩
  have hC := concat_any _ _ _ hR (by simp) (by simp) (by simp only [List.flatten_cons, List.flatten_nil, List.length_append]; omega) (by simp only [List.flatten_cons, List.flatten_nil, List.length_append, List.length_nil]; omega)
  go_wp2_with (go_at_call 53; refine hC.mono ?_; rintro e w4 ⟨v4, rfl, p4, f4, hb4⟩)
  go_ret
  have hsum : [TP, TQ].flatten = TP ++ TQ := by simp
  rw [hsum] at p4
  have bb := below_and B3 le hba
  exact ⟨_, rfl, OT.own p4 (bp.app bq) (f4.mono bb.size), below_and bb le hb4⟩

set_option maxRecDepth 10000 in
/-- lease.canDo. -/
theorem canDo_any (w : World) (r : List Value) (o : POp) (h : ROp Any w r o) :
    Calls Tryz.prog 111 #[.agg r.toArray] w fun e w' => e = .returned (.bool (decide (wok o ∧ 5 ≤ o.1))) ∧ Below w.heap.size w w' := by
  have hall := h
  obtain ⟨vn, va, vb, rfl, hn, ha, hb⟩ := h
  obtain ⟨w0, hw0⟩ : ∃ w0, w0 = w.alloc (.cells #[.int .i64 o.1, vn, va, vb, .int .i64 o.2.2.2.2] 56) := ⟨_, rfl⟩
  have ra : Row w0 w.heap.size 56 [.int .i64 o.1, vn, va, vb, .int .i64 o.2.2.2.2] := by rw [hw0]; exact Row.new w 56 _
  have B0 : Below w.heap.size w w0 := by rw [hw0]; exact below_alloc _ _
  have hC := write_any w0 _ o (mov_op _ _ _ _ _ _ hall B0.size (Mv.below B0))
  unfold errW at hC
  by_cases hw : wok o
  · rw [if_pos hw] at hC
    rw [show decide (wok o ∧ 5 ≤ o.1) = decide (5 ≤ o.1) by simp [hw]]
    go_enter Tryz.func111, Tryz.ntmps111
    go_upto_region 1 with fail
    rw [← hw0]
    clear hw0
    go_wp2_with (first
      | (refine wl_load rfl _ _ rfl w.heap.size rfl _ _ ra _ Tryz.underlying56 rfl (by kernel_rfl) ?_)
      | (go_at_call 21; refine hC.mono ?_; rintro e w2 ⟨v2, rfl, _, _, hb2⟩; have c0 := (ra.below hb2).cell (j := 0) rfl))
    go_ret
    exact ⟨rfl, below_and B0 (Nat.le_refl _) hb2⟩
  · rw [if_neg hw] at hC
    rw [decide_eq_false (fun h => hw h.1)]
    go_enter Tryz.func111, Tryz.ntmps111
    go_upto_region 1 with fail
    rw [← hw0]
    clear hw0
    go_wp2_with (first
      | (refine wl_load rfl _ _ rfl w.heap.size rfl _ _ ra _ Tryz.underlying56 rfl (by kernel_rfl) ?_)
      | (go_at_call 21; refine hC.mono ?_; rintro e w2 ⟨v2, rfl, _, _, hb2⟩; have c0 := (ra.below hb2).cell (j := 0) rfl))
    go_ret
    exact ⟨rfl, below_and B0 (Nat.le_refl _) hb2⟩
end Go.Proofs.YtejkkhlblnepeaaGreat
end

section
set_option linter.unusedVariables false
set_option linter.unusedSimpArgs false
namespace Go.Proofs.YtejkkhlblnepeaaGreat
open Go.RowKit Oct Kvl

/-- The first that holds it. -/
theorem hol_at {l : List PEnt} {n : List Int} {now : Int} {q : Nat} {x : PEnt} (h : ∀ (j : Nat) (y : PEnt), j < q → l[j]? = some y → ¬ (now < lu y.2 ∧ y.1 = n)) (hx : l[q]? = some x) (h1 : now < lu x.2) (h2 : x.1 = n) : holS l n now = (lo x.2, IntKind.i64.wrap (lu x.2 - now)) := by
  have : (l.find? fun x => decide (now < lu x.2) && decide (x.1 = n)) = some x := by
    rw [List.find?_eq_some_iff_getElem]
    refine ⟨by simp [h1, h2], q, (List.getElem?_eq_some_iff.1 hx).1, (List.getElem?_eq_some_iff.1 hx).2, fun j hj => ?_⟩
    have := h j _ hj (List.getElem?_eq_getElem (by have := (List.getElem?_eq_some_iff.1 hx).1; omega))
    simp only [Bool.not_eq_true', Bool.and_eq_false_iff, decide_eq_false_iff_not]
    rcases Decidable.em (now < lu (l[j]'(by have := (List.getElem?_eq_some_iff.1 hx).1; omega)).2) with h3 | h3
    · exact .inr fun e => this ⟨h3, e⟩
    · exact .inl h3
  unfold holS
  rw [this]
theorem hol_no {l : List PEnt} {n : List Int} {now : Int} (h : ∀ (j : Nat) (y : PEnt), j < l.length → l[j]? = some y → ¬ (now < lu y.2 ∧ y.1 = n)) : holS l n now = (0, 0) := by
  have : (l.find? fun x => decide (now < lu x.2) && decide (x.1 = n)) = none := by
    rw [List.find?_eq_none]
    intro y hy
    obtain ⟨j, hj, rfl⟩ := List.getElem_of_mem hy
    have := h j _ hj (List.getElem?_eq_getElem hj)
    simpa using this
  unfold holS
  rw [this]
theorem ret_two {a b c d : Int} (h : (a, b) = (c, d)) : Ending.returned (.tuple #[.int .i64 c, .int .i64 d]) = .returned (.tuple #[.int .i64 a, .int .i64 b]) := by cases h; rfl

end Go.Proofs.YtejkkhlblnepeaaGreat
end

section
set_option linter.unusedVariables false
set_option linter.unusedSimpArgs false
namespace Go.Proofs.YtejkkhlblnepeaaGreat
open Go.RowKit Oct Kvl

def addS (ys : List PEnt) (p : Nat) (x : PEnt) : List PEnt × Int × List Int := if 16 ≤ ys.length then (ys, 3, []) else (insL p x ys, 0, [])
theorem doT_new {l : List PEnt} {o : POp} {who now : Int} (h : getR o.2.1 l = none) (hk : o.1 = 5) : addS l (pos o.2.1 l) (o.2.1, [who, now + o.2.2.2.2]) = doT l o who now := by
  unfold addS doT insL
  rw [h]
  simp only
  rw [if_pos hk, put_new h]
theorem doT_miss {l : List PEnt} {o : POp} {who now : Int} (h : getR o.2.1 l = none) (hk : o.1 ≠ 5) : (l, 1, []) = doT l o who now := by
  unfold doT
  rw [h]
  simp only
  rw [if_neg hk]
theorem doT_hold {l : List PEnt} {o : POp} {who now : Int} {v : List Int} (h : getR o.2.1 l = some v) (hk : o.1 = 8) : (l, 0, tol v now) = doT l o who now := by
  unfold doT
  rw [h]
  simp only
  rw [if_pos hk]
theorem doT_held {l : List PEnt} {o : POp} {who now : Int} {v : List Int} (h : getR o.2.1 l = some v) (hk : o.1 ≠ 8) (hw : lo v ≠ who) : (l, 4, tol v now) = doT l o who now := by
  unfold doT
  rw [h]
  simp only
  rw [if_neg hk, if_pos hw]
theorem doT_del {l : List PEnt} {o : POp} {who now : Int} {v : List Int} (h : getR o.2.1 l = some v) (hk : o.1 ≠ 8) (hw : lo v = who) (h7 : o.1 = 7) : (l.take (pos o.2.1 l) ++ l.drop (pos o.2.1 l + 1), 0, []) = doT l o who now := by
  unfold doT
  rw [h]
  simp only
  rw [if_neg hk, if_neg (fun e => e hw), if_pos h7, del_old h]
theorem doT_set {l : List PEnt} {o : POp} {who now : Int} {v : List Int} (h : getR o.2.1 l = some v) (hk : o.1 ≠ 8) (hw : lo v = who) (h7 : o.1 ≠ 7) : (l.set (pos o.2.1 l) (o.2.1, [who, now + o.2.2.2.2]), 0, []) = doT l o who now := by
  unfold doT
  rw [h]
  simp only
  rw [if_neg hk, if_neg (fun e => e hw), if_neg h7, put_old h]

/-- A store elsewhere, in a block of another kind. -/
theorem LB.grownL {B : Nat} {w w' : World} {v : Value} {ys : List PEnt} {b : Nat} {t : TypeId} {xs : List Value} (h : LB OLea 84 3 B w v ys) (hr : Row w b t xs) (h1 : t ≠ 5) (h2 : t ≠ 84) (hg : w.grownBy w' (some b)) : LB OLea 84 3 B w' v ys := by
  obtain ⟨rows, r0, hown, hfr, hall⟩ := h
  have hne : v.ownBlock ≠ some b := fun e => by
    rcases hown.2 with ⟨rfl, _⟩ | ⟨g, cap, cur, rfl, _, hgg, _⟩
    · simp [Value.ownBlock] at e
    · simp [Value.ownBlock] at e
      subst e
      unfold Row at hr
      rw [hr] at hgg
      simp at hgg
      exact h2 hgg.2
  refine ⟨rows, r0, World.ownsRow.kept hown hg ?_, hfr, hall.mono fun q x hq => ?_⟩
  · cases hv : v.ownBlock with
    | none => exact .inl rfl
    | some k => exact .inr fun e => hne (hv.trans e)
  · obtain ⟨p, q, q', rfl, o1, o2⟩ := hq
    have mv : Mv (fun k => (B ≤ k ∧ v.ownBlock ≠ some k) ∧ k ≠ b) (fun k => B ≤ k ∧ v.ownBlock ≠ some k) w w' := fun k hk hlt => ⟨hg.block k hlt (fun e => hk.2 (by injection e)), hk.1⟩
    exact ⟨p, q, q', rfl, (o1.ne hr h1).mv mv, o2⟩
/-- The end of a call that gives leases and a result. -/
def Rs (B : Nat) (w : World) (x : List PEnt × Int × List Int) (e : Ending) (w' : World) : Prop :=
  ∃ v' vv, e = .returned (.tuple #[v', .agg #[.int .i64 x.2.1, vv]]) ∧ LB OLea 84 3 B w' v' x.1 ∧ OT (From B) w' vv x.2.2 ∧ Below B w w'

theorem flat_set3 {v a b c : Value} : ∀ {rows : List (List Value)} {p : Nat}, (∀ r ∈ rows, r.length = 3) → rows[p]? = some [a, b, c] → rows.flatten.set (p * 3 + 2) v = (rows.set p [a, b, v]).flatten
  | [], p, _, h => by simp at h
  | x :: rows, 0, h0, h => by
    simp at h
    subst h
    simp
  | x :: rows, p + 1, h0, h => by
    have hx := h0 x (by simp)
    have ih := flat_set3 (v := v) (a := a) (b := b) (c := c) (rows := rows) (p := p) (fun r hr => h0 r (by simp [hr])) (by simpa using h)
    rw [List.flatten_cons, List.set_cons_succ, List.flatten_cons, ← ih, List.set_append, if_neg (by omega), hx, show (p + 1) * 3 + 2 - 3 = p * 3 + 2 by omega]
/-- A lease's last slot is put anew. -/
theorem LB.set3 {B : Nat} {w w2 : World} {ys : List PEnt} {g cap p : Nat} {cur : List Value} {rows : List (List Value)} {a : Value} {p1 q1 q2 : Int} {x : PEnt} (h1 : Row w g 84 cur) (h2 : cur.length = cap * 3) (h3 : ys.length ≤ cap) (h4 : cap ≤ maxLen) (h5 : B ≤ g) (h6 : rows.length = ys.length) (h7 : ∀ r ∈ rows, r.length = 3) (h8 : cur.take (ys.length * 3) = rows.flatten)
    (h9 : All2 (OLea (fun b => B ≤ b ∧ b ≠ g) w) rows ys) (hp : ys[p]? = some x) (hr : rows[p]? = some [a, .int .i64 p1, .int .i64 q1]) (hg2 : w.grownBy w2 (some g)) (hr2 : Row w2 g 84 (cur.set (p * 3 + 2) (.int .i64 q2))) :
    LB OLea 84 3 B w2 (.slice (some ⟨g, 0, none⟩) ys.length cap) (ys.set p (x.1, [p1, q2])) := by
  have hmv : Mv (fun b => B ≤ b ∧ b ≠ g) (fun b => B ≤ b ∧ b ≠ g) w w2 := fun k hk hlt => ⟨hg2.block k hlt (fun e => by injection e with e; exact hk.2 e), hk⟩
  obtain ⟨a', b', c', e, o1, o2⟩ := h9.get hr hp
  injection e with e1 e
  subst e1
  refine LB.mkS hr2 (by rw [List.length_set]; exact h2) h3 h4 h5 (rows := rows.set p [a, .int .i64 p1, .int .i64 q2]) (by rw [List.length_set]; exact h6) (fun r hr => ?_) ?_ (All2.set (h9.mono fun q z hq => mov_olea _ _ _ _ _ _ hq hg2.size hmv) ⟨a, p1, q2, rfl, o1.mv hmv, rfl⟩)
  · rcases List.mem_or_eq_of_mem_set hr with hr | rfl
    · exact h7 r hr
    · rfl
  · rw [← flat_set3 h7 hr, ← h8, List.take_set]

set_option maxRecDepth 10000 in
set_option maxHeartbeats 4000000 in
/-- lease.add. -/
theorem addS_any (w : World) (v : Value) (B : Nat) (ys : List PEnt) (h : LB OLea 84 3 B w v ys) (hB : B ≤ w.heap.size) (hn : ys.length ≤ 64) (p : Nat) (hp : p ≤ ys.length) (r : List Value) (x : PEnt) (hx : RLea Any w r x) (hzx : szS x) :
    Calls Tryz.prog 116 #[v, .int .i64 (p : Int), .agg r.toArray] w (Rs B w (addS ys p x)) := by
  have hxall := hx
  obtain ⟨vn, p1, q1, rfl, rn, hx2⟩ := hx
  obtain ⟨an, cn, rfl, hcn⟩ := rn.form
  obtain ⟨w0, hw0⟩ : ∃ w0, w0 = (w.alloc (.cells #[.slice an x.1.length cn, .int .i64 p1, .int .i64 q1] 84)).alloc (.cells #[.int .i64 0, .slice none 0 0] 34) := ⟨_, rfl⟩
  have ra : Row w0 w.heap.size 84 [.slice an x.1.length cn, .int .i64 p1, .int .i64 q1] := by rw [hw0]; exact rowA (Row.new w 84 _) _
  have rr : Row w0 (w.heap.size + 1) 34 [.int .i64 0, .slice none 0 0] := by
    rw [hw0]
    have := Row.new (w.alloc (.cells #[.slice an x.1.length cn, .int .i64 p1, .int .i64 q1] 84)) 34 [.int .i64 0, .slice none 0 0]
    simpa using this
  have B0 : Below w.heap.size w w0 := by rw [hw0]; exact ((Below.refl _ w).alloc (Nat.le_refl _) _).alloc (by simp) _
  have hl0 := h.below mov_olea B0
  have hvlt := h.lt
  have hform : ∃ ao cap, v = .slice ao ys.length cap := by
    obtain ⟨ao, cap, e, _⟩ := (h.rl mov_olea).form
    exact ⟨ao, cap, e⟩
  by_cases h64 : 16 ≤ ys.length
  · rw [addS, if_pos h64]
    obtain ⟨ao, cap, rfl⟩ := hform
    have h64' : (16 : Int) ≤ ys.length := by omega
    go_enter Tryz.func116, Tryz.ntmps116
    go_upto_region 1 with fail
    rw [← hw0]
    clear hw0
    go_wp2_with (refine wl_store rfl _ _ _ rfl (w.heap.size + 1) [.int .i64 3, .slice none 0 0] rfl rfl _ _ rr rfl (by kernel_rfl) (one_res rfl) ?_; intro w5 hr5 hg5)
    refine bodyPost_ret (results_tc rfl _ _ (w.heap.size + 1) _ _ (0, 0) _ (by rfl) hr5.out Tryz.underlying34 rfl (by kernel_rfl)) rfl ?_
    exact ⟨_, _, rfl, hl0.grownL rr (by decide) (by decide) hg5, OT.nil _ _, (B0.mono hB).trans (grown_below hg5 (Nat.le_trans hB B0.size) (fun k hk => by cases hk; omega))⟩
  rw [addS, if_neg h64]
  have h64' : decide ((16 : Int) ≤ ys.length) = false := by simp; omega
  have hC := cloneLease_any w0 _ x (mov_lea _ _ _ _ _ _ hxall B0.size (Mv.below B0)) hzx
  have HL0 := (show Hid (LB OLea 84 3 B w0 v ys) from hl0)
  have HLT := (show Hid (∀ g, v.ownBlock = some g → g < w.heap.size) from hvlt)
  have HFR := (show Hid (∀ g, v.ownBlock = some g → B ≤ g) from h.fr)
  clear hl0 hvlt h
  have HI := (show Hid (∀ (u : World) (vb : Nat) (r : List Value), LB OLea 84 3 B u v ys → B ≤ u.heap.size → Row u vb 84 r → v.ownBlock ≠ some vb → OLea (fun b => B ≤ b ∧ v.ownBlock ≠ some b) u r x → Calls Tryz.prog 130 #[v, .int .i64 (p : Int), .slice (some ⟨vb, 0, none⟩) 1 1] u fun e w' => ∃ v', e = .returned v' ∧ LB OLea 84 3 B w' v' (insL p x ys) ∧ u.grownBy w' v.ownBlock) from fun u vb r h1 h2 h3 h4 h5 => insertS_any u v B ys h1 h2 hn p hp vb r h3 h4 x h5)
  obtain ⟨ao, cap, rfl⟩ := hform
  go_enter Tryz.func116, Tryz.ntmps116
  go_upto_region 1 with fail
  rw [← hw0]
  clear hw0
  go_wp2_with (first
    | (refine wl_load rfl _ _ rfl w.heap.size rfl _ _ ra _ Tryz.underlying84 rfl (by kernel_rfl) ?_)
    | (go_at_call 91; refine hC.mono ?_; rintro e w3 ⟨r3, rfl, o3, hb3⟩; obtain ⟨p3, q3, q3', rfl, t3, t4⟩ := o3; obtain ⟨ax3, cx3, rfl, hcx3⟩ := t3.rt.form))
  obtain ⟨w5, hw5⟩ : ∃ w5, w5 = w3.alloc (.cells #[.slice ax3 x.1.length cx3, .int .i64 q3, .int .i64 q3'] 84) := ⟨_, rfl⟩
  have n5 : Row w5 w3.heap.size 84 [.slice ax3 x.1.length cx3, .int .i64 q3, .int .i64 q3'] := by rw [hw5]; exact Row.new w3 _ _
  have b35 : Below w3.heap.size w3 w5 := by rw [hw5]; exact below_alloc _ _
  rw [← hw5]
  clear hw5
  have b05 := below_and hb3 (Nat.le_refl _) b35
  have bw5 := below_and B0 (Nat.le_refl _) b05
  have hmv : Mv (From w0.heap.size) (fun b => B ≤ b ∧ (Value.slice ao ys.length cap).ownBlock ≠ some b) w3 w5 := fun j hj hlt => ⟨b35.block j hlt, Nat.le_trans hB (Nat.le_trans B0.size hj), fun e => by
    have h1 := HLT.out j e
    have h2 := B0.size
    unfold From at hj
    omega⟩
  refine (HI.out w5 w3.heap.size _ (HL0.out.below mov_olea b05) (Nat.le_trans hB bw5.size) n5 (fun e => by
    have h1 := HLT.out _ e
    have h2 := (below_and B0 (Nat.le_refl _) hb3).size
    omega) ⟨_, _, _, rfl, t3.mv hmv, t4⟩).mono ?_
  rintro e w6 ⟨v6, rfl, hL6, hg6⟩
  have rr6 : Row w6 (w.heap.size + 1) 34 [.int .i64 0, .slice none 0 0] := (rr.below b05).grown hg6 (fun e => by have := HLT.out _ e; omega)
  go_wp2_with (refine wl_store rfl _ _ _ rfl (w.heap.size + 1) [.int .i64 0, .slice none 0 0] rfl rfl _ _ rr6 rfl (by kernel_rfl) (one_res rfl) ?_; intro w7 hr7 hg7)
  refine bodyPost_ret (results_tc rfl _ _ (w.heap.size + 1) _ _ (0, 0) _ (by rfl) hr7.out Tryz.underlying34 rfl (by kernel_rfl)) rfl ?_
  have b6 := (bw5.mono hB).trans (grown_below hg6 (Nat.le_trans hB bw5.size) (fun k hk => HFR.out k hk))
  exact ⟨_, _, rfl, hL6.grownL rr6 (by decide) (by decide) hg7, OT.nil _ _, b6.trans (grown_below hg7 (Nat.le_trans hB (Nat.le_trans bw5.size hg6.size)) (fun k hk => by cases hk; omega))⟩
end Go.Proofs.YtejkkhlblnepeaaGreat
end
