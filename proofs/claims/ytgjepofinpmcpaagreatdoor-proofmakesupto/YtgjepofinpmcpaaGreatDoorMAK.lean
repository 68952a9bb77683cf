/- zB0 what came in to what a walk wants: requests, messages. -/
import Derived.Test.YtgjepofinpmcpaaGreatDoorMAE
import Derived.Test.YtgjepofinpmcpaaGreatDoorRows
set_option linter.unusedVariables false
namespace Go.Proofs.YtgjepofinpmcpaaGreatDoor
section
open Go.RowKit Oct
theorem Tryz.infV : (Tryz.prog.info? 58).map (fun i => (i.zero, i.size, i.bytes)) = some (some (.agg #[.int .i64 0, .slice none 0 0]), 2, 32) := by kernel_rfl
theorem one_RV {G : Nat → Prop} {w : World} {r : List Value} {x : zAy} (h : zAz G w r x) : ∀ v ∈ r, v.oneCell' = true := by
  obtain ⟨s, rfl, hs⟩ := h
  have := hs.one
  intro v hv
  simp only [List.mem_cons, List.not_mem_nil, or_false] at hv
  rcases hv with rfl | rfl <;> first | rfl | assumption
theorem keepC {w u : World} {p : Addr} {v : Value} (hb : Below w.heap.size w u) (h : w.cell? p = some v) : u.cell? p = some v := (hb.cell (World.block_lt_of_cell? w p h)).trans h
theorem one2 {a : Int} {u : Value} (hu : u.oneCell' = true) : ∀ x ∈ [Value.int .i64 a, u], x.oneCell' = true := by
  intro x hx
  simp only [List.mem_cons, List.not_mem_nil, or_false] at hx
  rcases hx with rfl | rfl <;> first | rfl | assumption
theorem zAg {w : World} {e : TypeId} {v : Value} {xs : List Value} (h : Own w e v xs) : ∃ ao n cap, v = .slice ao n cap := by
  obtain ⟨ao, cap, e, _⟩ := h.form; exact ⟨ao, _, cap, e⟩
theorem zAt {w w' : World} {row : Option Nat} {a : Addr} {v : Value} (hg : w.grownBy w' row) (h : w.cell? a = some v) (hn : row ≠ some a.block) : w'.cell? a = some v := by
  rw [World.cell?_of_block (w := w) (w' := w') (a := a) (hg.block a.block (World.block_lt_of_cell? w a h) (fun e => hn e.symm))]
  exact h
theorem zHd {α : Type} {ys : List α} {q : Nat} (h : q ≤ ys.length) : (ys.take q).length = q := by rw [List.length_take]; omega
set_option maxRecDepth 10000 in
set_option maxHeartbeats 2000000 in
theorem zJ6 (w : World) (bb off cap : Nat) (ys : List zAy) (hl : 0 < ys.length) (hc : ys.length ≤ cap) (hm : cap ≤ maxLen) (hbb : bb < w.heap.size)
    (hx : ∀ (i : Nat) (a : zAy), ys[i]? = some a → ∃ r, r.length = 2 ∧ w.rangeAt bb (off + i * 2) r ∧ zAz Any w r a) (hz : szL 32 szV ys) :
    Calls Tryz.prog 29 #[.slice (some ⟨bb, off, none⟩) ys.length cap] w fun e w' => ∃ v', e = .returned v' ∧ RL zAz 2 (zB0 w.heap.size) w' v' ys ∧ Below w.heap.size w w' := by
  obtain ⟨hz1, hz2⟩ := hz
  have HX := (show Hid (∀ (i : Nat) (a : zAy), ys[i]? = some a → ∃ r, r.length = 2 ∧ w.rangeAt bb (off + i * 2) r ∧ zAz Any w r a) from hx)
  have HZ := (show Hid (∀ y ∈ ys, szV y) from hz2)
  have hlm : (ys.length : Int) ≤ 9223372036854775807 := by unfold maxLen at hm; omega
  clear hx hz2
  go_enter Tryz.func29, Tryz.ntmps29
  go_wp2_with fail
  go_loopw [3, 9] (fun v i wr => ∃ q : Nat, q ≤ ys.length ∧ i = .int .i64 q ∧ LB zAz 58 2 w.heap.size wr v (ys.take q) ∧ Below w.heap.size w wr) (fun _ i _ => ys.length - (intOf i).toNat)
  case atStart => exact ⟨0, by omega, rfl, LB.fresh _ _ _ _ _ zN, zA0 w _⟩
  case round =>
    obtain ⟨q, hq, rfl, hLB, hB⟩ := hrel
    by_cases hql : q < ys.length
    · obtain ⟨a, ha⟩ : ∃ a, ys[q]? = some a := ⟨_, List.getElem?_eq_getElem hql⟩
      obtain ⟨r, _, hrng, s, rfl, hs⟩ := HX.out q a ha
      have hza := HZ.out a (List.mem_of_getElem? ha)
      have hrng := zAw hrng (hB.block bb hbb)
      have HA := (show Hid (ys.take (q + 1) = ys.take q ++ [a]) from zBa ys q a ha)
      have hso := hs.one
      have hrow0 := Row.new wr 58 [.int .i64 0, .slice none 0 0]
      clear ha
      go_wp2_with (first
        | (refine wpList_load_mid rfl _ _ rfl bb (off + q * 2) rfl [.int .i64 a.1, s] _ hrng Tryz.underlying58 rfl (by kernel_rfl) ?_)
        | (refine zA7 rfl _ _ _ rfl wr.heap.size [.int .i64 a.1, s] rfl rfl _ _ hrow0 rfl (by kernel_rfl) (one2 hso) ?_; intro w5 hr5 hg5))
      have hb5 : Below wr.heap.size wr w5 := (zA0 wr (.cells ([.int .i64 0, .slice none 0 0] : List Value).toArray 58)).trans (zA5 hg5 (by simp) (fun k hk => by cases hk; exact zN))
      have hr5 := hr5.out
      have hB5 := zA1 hB zN hb5
      have hs5 := (hs.mv (Mv.below hB5)).1
      have p0 := hr5.cell (j := 0) rfl
      have p1 := hr5.cell (j := 1) rfl
      have SK := (show Hid (∀ u, Below w5.heap.size w5 u → u.cell? ⟨wr.heap.size, 0, none⟩ = some (.int .i64 a.1) ∧ u.cell? ⟨wr.heap.size, 1, none⟩ = some s) from fun u hu => ⟨keepC hu p0, keepC hu p1⟩)
      have hLB5 := hLB.below zA9 hb5
      have hlt5 : ∀ g, u3.ownBlock = some g → g < w5.heap.size := hLB5.lt
      have hws : w.heap.size ≤ w5.heap.size := hB5.size
      have hne0 := World.new_ne w5 ⟨wr.heap.size, 0, none⟩ p0
      have hne1 := World.new_ne w5 ⟨wr.heap.size, 1, none⟩ p1
      have htl := zHd hq
      have hnv : u3.ownBlock ≠ some wr.heap.size := fun e => absurd (hLB.lt _ e) (Nat.lt_irrefl _)
      clear hrng hrow0 hg5
      go_region_held3 (fun u => u.cell? ⟨wr.heap.size, 0, none⟩ = some (.int .i64 a.1) ∧ u.cell? ⟨wr.heap.size, 1, none⟩ = some s)
        (first | exact SK.out _ (by assumption) | exact hS8 | go_keep)
        (first
          | (refine zDq (by rfl) _ _ (by rfl) (.slice (some ⟨w5.heap.size, 0, none⟩) 0 0) [] (by rfl) (zE3 w5 5).drew s a.2 (by rfl) (hs5.below (zA0 w5 _)).2.drew (by simp only [List.length_nil]; have := hza; unfold szV szT at this; omega) ?_; intro v6 w6 happ6; obtain ⟨ao6, n6, c6, rfl⟩ := zAg happ6.own; have hb6 : Below w5.heap.size w5 w6 := ((zA0 w5 _).drew).trans (happ6.below (zBx _ _ _ _ zN) (by simp)); have hRc : zAz (zB0 w5.heap.size) w6 [.int .i64 a.1, .slice ao6 n6 c6] a := ⟨_, rfl, RT.own (by simpa using happ6.own) hs5.1 (happ6.fr (zBx _ _ _ _ zN) (by simp))⟩; have hLB6 := hLB5.below zA9 hb6)
          | (refine zMf zA9 (by rfl) _ _ _ (by rfl) 58 2 32 _ Tryz.underlying35 Tryz.infV rfl (by decide) w.heap.size u3 (ys.take q) (by rfl) hLB6 [.int .i64 a.1, .slice ao6 n6 c6] a w5.heap.size hRc rfl (one_RV hRc) hws hlt5 (by rfl) (Nat.le_trans hws hb6.size) (by rw [htl]; omega) (by decide) ?_; intro v8 w8 hLB8 hg8; have hS8 : w8.cell? ⟨wr.heap.size, 0, none⟩ = some (.int .i64 a.1) ∧ w8.cell? ⟨wr.heap.size, 1, none⟩ = some s := ⟨zAt hg8 (keepC hb6 p0) hnv, zAt hg8 (keepC hb6 p1) hnv⟩))
      rw [← HA.out] at hLB8
      have hb56 := zA1 hb5 zN hb6
      have hB8 := (zA1 hB zN hb56).trans (zA5 hg8 (zA1 hB zN hb56).size (fun k hk => hLB.fr k hk))
      go_wp2_with fail
      go_roundw
      case rel => exact ⟨q + 1, by omega, by go_num, hLB8, hB8⟩
      case measure => simp [intOf]; omega
    · obtain rfl : q = ys.length := by omega
      rw [List.take_length] at hLB
      have hrl := hLB.rl zA9
      go_wp2_with fail
      go_ret
      exact ⟨_, rfl, hrl, hB⟩
theorem zJa (w : World) (ao : Option Addr) (cap : Nat) :
    Calls Tryz.prog 29 #[.slice ao 0 cap] w fun e w' => ∃ v', e = .returned v' ∧ RL zAz 2 (zB0 w.heap.size) w' v' [] ∧ Below w.heap.size w w' := by
  go_enter Tryz.func29, Tryz.ntmps29
  go_wp2_with fail
  refine wp_loop_rounds 1 ?_; rw [rounds_succ]
  go_wp2_with fail
  go_ret
  exact ⟨_, rfl, (LB.fresh zAz 58 2 w.heap.size w zN).rl zA9, zA0 w _⟩
theorem zCv (w : World) (v : Value) (ys : List zAy) (h : RL zAz 2 Any w v ys) (hz : szL 32 szV ys) :
    Calls Tryz.prog 29 #[v] w fun e w' => ∃ v', e = .returned v' ∧ RL zAz 2 (zB0 w.heap.size) w' v' ys ∧ Below w.heap.size w w' := by
  by_cases hl : 0 < ys.length
  · obtain ⟨b1, o1, c1, rfl, hc1, hm1, _, hb1, hx1⟩ := h.at hl
    exact zJ6 w b1 o1 c1 ys hl hc1 hm1 hb1 hx1 hz
  · obtain rfl : ys = [] := List.eq_nil_of_length_eq_zero (by omega)
    obtain ⟨ao, c1, rfl, _⟩ := h.form
    exact zJa w ao c1
end
section
open Go.ChangeShapes Go.WideShapes Go.ChangeAt Go.RowKit Oct
def bT (l : List Int) : Nat := l.length + 1
def bS {α : Type} (f : α → Nat) : List α → Nat
  | [] => 0
  | y :: ys => f y + bS f ys
def bL {α : Type} (f : α → Nat) (ys : List α) : Nat := bS f ys + 1
def bV (x : zAy) : Nat := 2 + bT x.2
def bQ (x : zB3) : Nat := 3 + bT x.2.2.1 + bT x.2.2.2
def bP (x : zCo) : Nat := 5 + bQ x.2.2.1 + bL bV x.2.2.2
def bR (x : zF8) : Nat := 6 + bT x.2.2.2.1 + bL bV x.2.2.2.2.1 + bL bP x.2.2.2.2.2.1 + bT x.2.2.2.2.2.2
def bM (m : PMsg) : Nat := 10 + bQ m.req + bQ m.oth + bT m.data + bT m.sig + bL bV m.cert + bL bV m.votes + bL (fun _ => 1) m.order + bL bQ m.picks + bL bR m.reps
def Opn {H : Type} (enc : TypeId × Value → H) (P : Program) (w : World) (base : Nat) (held : Bool) (t : TypeId) {α : Type} (R : List Value → α → Prop) (bk : α → Nat) (sz : α → Prop) : Prop :=
  ∀ fuel cs x, DataW.trod enc P w base (fun _ => true) held fuel t cs = some x → ∃ y, R cs y ∧ bk y ≤ Rows.uptoBulk x.1 ∧ ((∀ n ∈ x.1.weights P t, n ≤ reachBytes) → sz y)
theorem fld {H : Type} {enc : TypeId × Value → H} {P : Program} {w : World} {base n : Nat} {held : Bool} {fs : Array Field} {cs : List Value} {xs : List (DataW H × List MemPlace)}
    (hf : ∀ (i : Nat) (f : Field), fs[i]? = some f → DataW.trod enc P w base (fun _ => true) held n f.type ((cs.drop f.offset).take (P.cellsOf f.type)) = xs[i]?)
    (i : Nat) {f : Field} (e : fs[i]? = some f) {T off k : Nat} (hT : f.type = T) (ho : f.offset = off) (hc : P.cellsOf T = k) {cs' : List Value} {x' : DataW H × List MemPlace} (hcs : (cs.drop off).take k = cs') (hx : xs[i]? = some x') :
    DataW.trod enc P w base (fun _ => true) held n T cs' = some x' := by
  have := hf i f e
  rw [hT, ho, hc, hcs, hx] at this
  exact this
theorem zKx (b o m j : Nat) : ((⟨b, o, none⟩ : Addr).add m).add j = ⟨b, o + m + j, none⟩ := by
  unfold Addr.add
  by_cases h1 : m = 0 <;> by_cases h2 : j = 0 <;> simp [h1, h2]
theorem of2 {α : Type} {l : List α} (h : l.length = 2) : ∃ c0 c1, l = [c0, c1] := by match l, h with | [c0, c1], _ => exact ⟨c0, c1, rfl⟩
theorem of4 {α : Type} {l : List α} (h : l.length = 4) : ∃ c0 c1 c2 c3, l = [c0, c1, c2, c3] := by match l, h with | [c0, c1, c2, c3], _ => exact ⟨c0, c1, c2, c3, rfl⟩
theorem of7 {α : Type} {l : List α} (h : l.length = 7) : ∃ c0 c1 c2 c3 c4 c5 c6, l = [c0, c1, c2, c3, c4, c5, c6] := by match l, h with | [c0, c1, c2, c3, c4, c5, c6], _ => exact ⟨c0, c1, c2, c3, c4, c5, c6, rfl⟩
theorem of8 {α : Type} {l : List α} (h : l.length = 8) : ∃ c0 c1 c2 c3 c4 c5 c6 c7, l = [c0, c1, c2, c3, c4, c5, c6, c7] := by match l, h with | [c0, c1, c2, c3, c4, c5, c6, c7], _ => exact ⟨c0, c1, c2, c3, c4, c5, c6, c7, rfl⟩
theorem of16 {α : Type} {l : List α} (h : l.length = 16) : ∃ c0 c1 c2 c3 c4 c5 c6 c7 c8 c9 c10 c11 c12 c13 c14 c15, l = [c0, c1, c2, c3, c4, c5, c6, c7, c8, c9, c10, c11, c12, c13, c14, c15] := by match l, h with | [c0, c1, c2, c3, c4, c5, c6, c7, c8, c9, c10, c11, c12, c13, c14, c15], _ => exact ⟨c0, c1, c2, c3, c4, c5, c6, c7, c8, c9, c10, c11, c12, c13, c14, c15, rfl⟩
theorem of23 {α : Type} {l : List α} (h : l.length = 23) : ∃ c0 c1 c2 c3 c4 c5 c6 c7 c8 c9 c10 c11 c12 c13 c14 c15 c16 c17 c18 c19 c20 c21 c22, l = [c0, c1, c2, c3, c4, c5, c6, c7, c8, c9, c10, c11, c12, c13, c14, c15, c16, c17, c18, c19, c20, c21, c22] := by match l, h with | [c0, c1, c2, c3, c4, c5, c6, c7, c8, c9, c10, c11, c12, c13, c14, c15, c16, c17, c18, c19, c20, c21, c22], _ => exact ⟨c0, c1, c2, c3, c4, c5, c6, c7, c8, c9, c10, c11, c12, c13, c14, c15, c16, c17, c18, c19, c20, c21, c22, rfl⟩
theorem zDe {H : Type} {enc : TypeId × Value → H} {w : World} {base : Nat} {held : Bool} : Opn enc Tryz.prog w base held 23 (fun cs l => ∃ v, cs = [v] ∧ RT Any w v l) bT szT := by
  intro fuel cs x h
  obtain ⟨v, rfl⟩ : ∃ v, cs = [v] := by
    rcases DataW.trod_slice Tryz.underlying23 h with ⟨e, _⟩ | ⟨a, len, cap, elems, rest, n, _, e, _⟩ <;> exact ⟨_, e⟩
  obtain ⟨l, h1, h2⟩ := zFx Tryz.underlying23 Tryz.underlying5 (by kernel_rfl) h
  refine ⟨l, ⟨v, rfl, h1, fun _ _ _ => trivial⟩, zR7 h2, fun hn => ?_⟩
  rcases h2 with ⟨_, rfl⟩ | ⟨sp, e⟩
  · exact Nat.zero_le _
  · rw [e] at hn
    have := hn ((lits .u8 l).length * Tryz.prog.bytesOf 5 + sp.length * Tryz.prog.bytesOf 5) (by simp only [DataW.weights, Tryz.underlying23, Nat.add_mul]; exact .head _)
    rw [show Tryz.prog.bytesOf 5 = 1 by kernel_rfl] at this
    simp only [lits, List.length_map, reachBytes] at this
    show l.length ≤ _
    omega
theorem zQl {w : World} {a : Addr} {v : Value} (h : w.cell? a = some v) : a = ⟨a.block, a.off, none⟩ ∧ a.block < w.heap.size := by
  obtain ⟨b, o, s⟩ := a
  unfold World.cell? at h
  split at h
  · rename_i c e1 e2 hh
    split at h
    · cases h
    · rename_i hs
      refine ⟨?_, ?_⟩
      · cases s with
        | none => rfl
        | some k => simp at hs
      · exact (Array.getElem?_eq_some_iff.1 hh).1
  · cases h
theorem zG3 {H : Type} {enc : TypeId × Value → H} {P : Program} {w : World} {base : Nat} {held : Bool} {t e : TypeId} {α : Type} {R : (Nat → Prop) → World → List Value → α → Prop} {bk : α → Nat} {sz : α → Prop} {k b : Nat}
    (ht : P.underlying t = some (.slice e)) (hc : P.cellsOf e = k) (hb : P.bytesOf e = b) (hk : 0 < k) (He : Opn enc P w base held e (R Any w) bk sz) :
    Opn enc P w base held t (fun cs ys => ∃ v, cs = [v] ∧ RL R k Any w v ys) (bL bk) (szL b sz) := by
  intro fuel cs x h
  rcases DataW.trod_slice ht h with ⟨rfl, rfl⟩ | ⟨a, len, cap, elems, rest, n, rfl, rfl, rfl, _, hl, hm, hlen, hel, _, _⟩
  · exact ⟨[], ⟨_, rfl, RL.nil R k Any w⟩, by simp [bL, bS, Rows.uptoBulk], fun _ => ⟨by simp, fun y hy => by cases hy⟩⟩
  · rw [hc] at hel
    have each : ∀ i (hi : i < elems.length), ∃ r y, r.length = k ∧ w.cells? base (a.add (i * k)) k = some r ∧ R Any w r y ∧ bk y ≤ Rows.uptoBulk elems[i].1 ∧ ((∀ n ∈ elems[i].1.weights P e, n ≤ reachBytes) → sz y) := fun i hi => by
      have h1 := hel i (by omega)
      rw [List.getElem?_eq_getElem hi] at h1
      obtain ⟨r, hr1, hr2⟩ := Option.bind_eq_some_iff.1 h1
      obtain ⟨y, g1, g2, g3⟩ := He n r _ hr2
      exact ⟨r, y, (World.cells?_some hr1).2.1, hr1, g1, g2, g3⟩
    clear hel h
    obtain ⟨rows, ys, q1, q2, q3, q4, q5⟩ : ∃ (rows : List (List Value)) (ys : List α), rows.length = elems.length ∧ zC0 (R Any w) rows ys ∧ (∀ i r, rows[i]? = some r → r.length = k ∧ w.cells? base (a.add (i * k)) k = some r) ∧ bS bk ys ≤ Rows.uptoBulkAll (elems.map (·.1)) ∧
        ((∀ n ∈ DataW.weightsAll P e (elems.map (·.1)), n ≤ reachBytes) → ∀ y ∈ ys, sz y) := by
      clear hl hm hlen
      have key : ∀ (es : List (DataW H × List MemPlace)) (o : Nat), (∀ i (hi : i < es.length), ∃ r y, r.length = k ∧ w.cells? base (a.add ((o + i) * k)) k = some r ∧ R Any w r y ∧ bk y ≤ Rows.uptoBulk es[i].1 ∧ ((∀ n ∈ es[i].1.weights P e, n ≤ reachBytes) → sz y)) →
          ∃ (rows : List (List Value)) (ys : List α), rows.length = es.length ∧ zC0 (R Any w) rows ys ∧ (∀ i r, rows[i]? = some r → r.length = k ∧ w.cells? base (a.add ((o + i) * k)) k = some r) ∧ bS bk ys ≤ Rows.uptoBulkAll (es.map (·.1)) ∧
            ((∀ n ∈ DataW.weightsAll P e (es.map (·.1)), n ≤ reachBytes) → ∀ y ∈ ys, sz y) := by
        intro es
        induction es with
        | nil => exact fun o _ => ⟨[], [], rfl, trivial, fun i r h => by simp at h, by simp [bS], fun _ y hy => by cases hy⟩
        | cons x es ih =>
          intro o hh
          obtain ⟨rows, ys, q1, q2, q3, q4, q5⟩ := ih (o + 1) (fun i hi => by
            obtain ⟨r, y, g⟩ := hh (i + 1) (by simp; omega)
            refine ⟨r, y, ?_⟩
            simp only [List.getElem_cons_succ] at g
            rw [show o + (i + 1) = o + 1 + i by omega] at g
            exact g)
          obtain ⟨r, y, g1, g2, g3, g4, g5⟩ := hh 0 (by simp)
          simp only [List.getElem_cons_zero] at g4 g5
          refine ⟨r :: rows, y :: ys, by simp [q1], ⟨g3, q2⟩, fun i r' hr' => ?_, ?_, fun hn y' hy' => ?_⟩
          · cases i with
            | zero => simp at hr'; subst hr'; exact ⟨g1, g2⟩
            | succ i =>
              simp at hr'
              have := q3 i r' hr'
              rw [show o + 1 + i = o + (i + 1) by omega] at this
              exact this
          · simp only [bS, List.map_cons, Rows.uptoBulkAll]; omega
          · simp only [List.map_cons, DataW.weightsAll, List.mem_append] at hn
            cases List.mem_cons.1 hy' with
            | inl e => subst e; exact g5 fun n h => hn n (.inl h)
            | inr e => exact q5 (fun n h => hn n (.inr h)) y' e
      obtain ⟨rows, ys, q⟩ := key elems 0 (fun i hi => by
        obtain ⟨r, y, g⟩ := each i hi
        refine ⟨r, y, ?_⟩
        rw [Nat.zero_add]
        exact g)
      refine ⟨rows, ys, ?_⟩
      simp only [Nat.zero_add] at q
      exact q
    have hyl := q2.len
    refine ⟨ys, ⟨_, rfl, rows, ⟨fun r hr => ?_, ?_⟩, q2⟩, ?_, fun hn => ⟨?_, q5 fun n h => hn n ?_⟩⟩
    · obtain ⟨i, hi, e⟩ := List.mem_iff_getElem.1 hr
      exact (q3 i r (by rw [← e]; exact List.getElem?_eq_getElem hi)).1
    · rcases Nat.eq_zero_or_pos rows.length with h0 | h0
      · refine .inl ⟨some a, cap, ?_, List.length_eq_zero_iff.1 h0, hm⟩
        have : len = 0 := by omega
        rw [this]
      · have h1 := q3 0 _ (List.getElem?_eq_getElem h0)
        have h2 := (World.cells?_some h1.2).2.2 0 hk
        have hr0 : 0 < (rows[0]).length := by omega
        rw [List.getElem?_eq_getElem hr0] at h2
        have ha : a = ⟨a.block, a.off, none⟩ ∧ a.block < w.heap.size := by
          have : (a.add (0 * k)).add 0 = a := by simp [Addr.add]
          rw [this] at h2
          exact zQl h2
        refine .inr ⟨a.block, a.off, cap, ?_, by omega, hm, h0, trivial, ha.2, fun i r hr j v hv => ?_⟩
        · have : len = rows.length := by omega
          rw [this, ← ha.1]
        · have hj : j < r.length := (List.getElem?_eq_some_iff.1 hv).1
          have h3 := q3 i r hr
          have h4 := (World.cells?_some h3.2).2.2 j (by omega)
          rw [← hv, ← h4]
          congr 1
          rw [ha.1]
          exact (zKx _ _ _ _).symm
    · simp only [bL, Rows.uptoBulk]; omega
    · have h6 := hn ((elems.map (·.1)).length * P.bytesOf e + (rest.map (·.1)).length * P.bytesOf e) (by simp [DataW.weights, ht, Nat.add_mul])
      rw [hb] at h6
      simp only [List.length_map, reachBytes] at h6
      have : ys.length = elems.length := by omega
      rw [this]
      omega
    · simp only [DataW.weights, ht, List.mem_cons, List.mem_append]
      exact .inr (.inl h)
section
variable {H : Type} {enc : TypeId × Value → H} {w : World} {base : Nat} {held : Bool}
theorem zCg : Opn enc Tryz.prog w base held 3 (zG2 Any w) (fun _ => 1) (fun _ => True) := by
  intro fuel cs x h
  obtain ⟨n, rfl, rfl, _⟩ := DataW.trod_int Tryz.underlying3 h
  exact ⟨n, rfl, by simp [Rows.uptoBulk], fun _ => trivial⟩
theorem zAp {P : Program} {t : TypeId} {fs : Array Field} (ht : P.underlying t = some (.struct fs)) {ds : List (DataW H)} (hn : ∀ n ∈ (DataW.agg ds).weights P t, n ≤ reachBytes) (i : Nat) {f : Field} (e : fs[i]? = some f) {T : TypeId} (hT : f.type = T) {d : DataW H} (hd : ds[i]? = some d) :
    ∀ n ∈ d.weights P T, n ≤ reachBytes := fun n h => by
  refine hn n ?_
  simp only [DataW.weights, ht]
  refine DataW.weights_mem_each (j := i) (t := T) ?_ hd n h
  rw [List.getElem?_map]
  rw [← Array.getElem?_toList] at e
  rw [e, ← hT]
  rfl
theorem zBj : Tryz.prog.cellsOf 3 = 1 := by kernel_rfl
theorem zCf : Tryz.prog.cellsOf 23 = 1 := by kernel_rfl
theorem opn_vote : Opn enc Tryz.prog w base held 58 (zAz Any w) bV szV := by
  intro fuel cs x h
  obtain ⟨xs, n, rfl, rfl, hl, hxl, hf⟩ := DataW.trod_struct Tryz.underlying58 h
  have hxl : xs.length = 2 := hxl
  rw [show Tryz.prog.cellsOf 58 = 2 by kernel_rfl] at hl
  obtain ⟨c0, c1, rfl⟩ : ∃ c0 c1, cs = [c0, c1] := of2 hl
  obtain ⟨x0, x1, rfl⟩ : ∃ x0 x1, xs = [x0, x1] := of2 hxl
  have h0 := fld hf 0 rfl rfl rfl zBj (cs' := [c0]) rfl rfl
  have h1 := fld hf 1 rfl rfl rfl zCf (cs' := [c1]) rfl rfl
  obtain ⟨y0, g0, (b0 : 1 ≤ _), _⟩ := zCg _ _ _ h0
  obtain ⟨y1, ⟨v, e1, g1⟩, b1, s1⟩ := zDe _ _ _ h1
  cases g0
  cases e1
  refine ⟨(y0, y1), ⟨_, rfl, g1⟩, ?_, fun hn => s1 (zAp Tryz.underlying58 hn 1 rfl rfl rfl)⟩
  simp only [bV, Rows.uptoBulk, Rows.uptoBulkAll, List.map_cons, List.map_nil]
  omega
theorem opn_req' (fuel : Nat) (cs : List Value) (x : DataW H × List MemPlace) (h : DataW.trod enc Tryz.prog w base (fun _ => true) held fuel 34 cs = some x) :
    ∃ y : zB3, zCs Any w cs y ∧ bQ y ≤ Rows.uptoBulk x.1 ∧ ((∀ n ∈ x.1.weights Tryz.prog 34, n ≤ reachBytes) → szQ y) ∧ (Lit.int .i64 y.1).wf = true ∧ (Lit.int .i64 y.2.1).wf = true := by
  obtain ⟨xs, n, rfl, rfl, hl, hxl, hf⟩ := DataW.trod_struct Tryz.underlying34 h
  have hxl : xs.length = 4 := hxl
  rw [show Tryz.prog.cellsOf 34 = 4 by kernel_rfl] at hl
  obtain ⟨c0, c1, c2, c3, rfl⟩ : ∃ c0 c1 c2 c3, cs = [c0, c1, c2, c3] := of4 hl
  obtain ⟨x0, x1, x2, x3, rfl⟩ : ∃ c0 c1 c2 c3, xs = [c0, c1, c2, c3] := of4 hxl
  have h0 := fld hf 0 rfl rfl rfl zBj (cs' := [c0]) rfl rfl
  have h1 := fld hf 1 rfl rfl rfl zBj (cs' := [c1]) rfl rfl
  have h2 := fld hf 2 rfl rfl rfl zCf (cs' := [c2]) rfl rfl
  have h3 := fld hf 3 rfl rfl rfl zCf (cs' := [c3]) rfl rfl
  obtain ⟨y0, g0, e0, r0⟩ := DataW.trod_int Tryz.underlying3 h0
  obtain ⟨y1, g1, e1, r1⟩ := DataW.trod_int Tryz.underlying3 h1
  obtain ⟨y2, ⟨v2, e2, g2⟩, b2, s2⟩ := zDe _ _ _ h2
  obtain ⟨y3, ⟨v3, e3, g3⟩, b3, s3⟩ := zDe _ _ _ h3
  cases g0
  cases g1
  cases e2
  cases e3
  refine ⟨(y0, y1, y2, y3), ⟨_, _, rfl, g2, g3⟩, ?_, fun hn => ⟨s2 (zAp Tryz.underlying34 hn 2 rfl rfl rfl), s3 (zAp Tryz.underlying34 hn 3 rfl rfl rfl)⟩, r0, r1⟩
  rw [e0, e1]
  simp only [bQ, Rows.uptoBulk, Rows.uptoBulkAll, List.map_cons, List.map_nil]
  omega
theorem zKn : Opn enc Tryz.prog w base held 34 (zCs Any w) bQ szQ := fun fuel cs x h => by
  obtain ⟨y, h1, h2, h3, _⟩ := opn_req' fuel cs x h
  exact ⟨y, h1, h2, h3⟩
def RBalO (_ : Nat → Prop) (_ : World) (r : List Value) (x : zTt) : Prop := r = [.int .i64 x.1, .int .i64 x.2]
theorem zMs : Opn enc Tryz.prog w base held 32 (RBalO Any w) (fun _ => 3) (fun _ => True) := by
  intro fuel cs x h
  obtain ⟨xs, n, rfl, rfl, hl, hxl, hf⟩ := DataW.trod_struct Tryz.underlying32 h
  have hxl : xs.length = 2 := hxl
  rw [show Tryz.prog.cellsOf 32 = 2 by kernel_rfl] at hl
  obtain ⟨c0, c1, rfl⟩ : ∃ c0 c1, cs = [c0, c1] := of2 hl
  obtain ⟨x0, x1, rfl⟩ : ∃ x0 x1, xs = [x0, x1] := of2 hxl
  have h0 := fld hf 0 rfl rfl rfl zBj (cs' := [c0]) rfl rfl
  have h1 := fld hf 1 rfl rfl rfl zBj (cs' := [c1]) rfl rfl
  obtain ⟨y0, g0, (b0 : 1 ≤ _), _⟩ := zCg _ _ _ h0
  obtain ⟨y1, g1, (b1 : 1 ≤ _), _⟩ := zCg _ _ _ h1
  cases g0
  cases g1
  refine ⟨(y0, y1), rfl, ?_, fun _ => trivial⟩
  simp only [Rows.uptoBulk, Rows.uptoBulkAll, List.map_cons, List.map_nil]
  omega
theorem zGi : Opn enc Tryz.prog w base held 35 (fun cs ys => ∃ v, cs = [v] ∧ RL zAz 2 Any w v ys) (bL bV) (szL 32 szV) := zG3 Tryz.underlying35 (by kernel_rfl) (by kernel_rfl) (by decide) opn_vote
theorem opn_reqs : Opn enc Tryz.prog w base held 37 (fun cs ys => ∃ v, cs = [v] ∧ RL zCs 4 Any w v ys) (bL bQ) (szL 64 szQ) := zG3 Tryz.underlying37 (by kernel_rfl) (by kernel_rfl) (by decide) zKn
theorem opn_ints : Opn enc Tryz.prog w base held 36 (fun cs ys => ∃ v, cs = [v] ∧ RL zG2 1 Any w v ys) (bL fun _ => 1) (szL 8 fun _ => True) := zG3 Tryz.underlying36 (by kernel_rfl) (by kernel_rfl) (by decide) zCg
theorem zDt : Tryz.prog.cellsOf 35 = 1 := by kernel_rfl
theorem zIf : Tryz.prog.cellsOf 32 = 2 := by kernel_rfl
theorem zHw : Tryz.prog.cellsOf 34 = 4 := by kernel_rfl
theorem opn_prep : Opn enc Tryz.prog w base held 107 (zBy Any w) bP szP := by
  intro fuel cs x h
  obtain ⟨xs, n, rfl, rfl, hl, hxl, hf⟩ := DataW.trod_struct Tryz.underlying107 h
  have hxl : xs.length = 4 := hxl
  rw [show Tryz.prog.cellsOf 107 = 8 by kernel_rfl] at hl
  obtain ⟨c0, c1, c2, c3, c4, c5, c6, c7, rfl⟩ : ∃ c0 c1 c2 c3 c4 c5 c6 c7, cs = [c0, c1, c2, c3, c4, c5, c6, c7] := of8 hl
  obtain ⟨x0, x1, x2, x3, rfl⟩ : ∃ c0 c1 c2 c3, xs = [c0, c1, c2, c3] := of4 hxl
  have h0 := fld hf 0 rfl rfl rfl zBj (cs' := [c0]) rfl rfl
  have h1 := fld hf 1 rfl rfl rfl zIf (cs' := [c1, c2]) rfl rfl
  have h2 := fld hf 2 rfl rfl rfl zHw (cs' := [c3, c4, c5, c6]) rfl rfl
  have h3 := fld hf 3 rfl rfl rfl zDt (cs' := [c7]) rfl rfl
  obtain ⟨y0, g0, (b0 : 1 ≤ _), _⟩ := zCg _ _ _ h0
  obtain ⟨⟨y10, y11⟩, g1, (b1 : 3 ≤ _), _⟩ := zMs _ _ _ h1
  obtain ⟨⟨y20, y21, y22, y23⟩, ⟨o, g, e2, g2, g2'⟩, b2, s2⟩ := zKn _ _ _ h2
  obtain ⟨y3, ⟨v3, e3, g3⟩, b3, s3⟩ := zGi _ _ _ h3
  cases g0
  cases g1
  cases e2
  cases e3
  refine ⟨(y0, (y10, y11), (y20, y21, y22, y23), y3), ⟨_, _, _, rfl, g2, g2', g3⟩, ?_, fun hn => ⟨s2 (zAp Tryz.underlying107 hn 2 rfl rfl rfl), s3 (zAp Tryz.underlying107 hn 3 rfl rfl rfl)⟩⟩
  simp only [bP, Rows.uptoBulk, Rows.uptoBulkAll, List.map_cons, List.map_nil]
  omega
theorem zUy : Opn enc Tryz.prog w base held 66 (fun cs ys => ∃ v, cs = [v] ∧ RL zBy 8 Any w v ys) (bL bP) (szL 112 szP) := zG3 Tryz.underlying66 (by kernel_rfl) (by kernel_rfl) (by decide) opn_prep
theorem zO5 : Tryz.prog.cellsOf 66 = 1 := by kernel_rfl
theorem opn_rep : Opn enc Tryz.prog w base held 68 (zDo Any w) bR szR := by
  intro fuel cs x h
  obtain ⟨xs, n, rfl, rfl, hl, hxl, hf⟩ := DataW.trod_struct Tryz.underlying68 h
  have hxl : xs.length = 7 := hxl
  rw [show Tryz.prog.cellsOf 68 = 8 by kernel_rfl] at hl
  obtain ⟨c0, c1, c2, c3, c4, c5, c6, c7, rfl⟩ : ∃ c0 c1 c2 c3 c4 c5 c6 c7, cs = [c0, c1, c2, c3, c4, c5, c6, c7] := of8 hl
  obtain ⟨x0, x1, x2, x3, x4, x5, x6, rfl⟩ : ∃ c0 c1 c2 c3 c4 c5 c6, xs = [c0, c1, c2, c3, c4, c5, c6] := of7 hxl
  have h0 := fld hf 0 rfl rfl rfl zIf (cs' := [c0, c1]) rfl rfl
  have h1 := fld hf 1 rfl rfl rfl zBj (cs' := [c2]) rfl rfl
  have h2 := fld hf 2 rfl rfl rfl zBj (cs' := [c3]) rfl rfl
  have h3 := fld hf 3 rfl rfl rfl zCf (cs' := [c4]) rfl rfl
  have h4 := fld hf 4 rfl rfl rfl zDt (cs' := [c5]) rfl rfl
  have h5 := fld hf 5 rfl rfl rfl zO5 (cs' := [c6]) rfl rfl
  have h6 := fld hf 6 rfl rfl rfl zCf (cs' := [c7]) rfl rfl
  obtain ⟨⟨y00, y01⟩, g0, (b0 : 3 ≤ _), _⟩ := zMs _ _ _ h0
  obtain ⟨y1, g1, (b1 : 1 ≤ _), _⟩ := zCg _ _ _ h1
  obtain ⟨y2, g2, (b2 : 1 ≤ _), _⟩ := zCg _ _ _ h2
  obtain ⟨y3, ⟨v3, e3, g3⟩, b3, s3⟩ := zDe _ _ _ h3
  obtain ⟨y4, ⟨v4, e4, g4⟩, b4, s4⟩ := zGi _ _ _ h4
  obtain ⟨y5, ⟨v5, e5, g5⟩, b5, s5⟩ := zUy _ _ _ h5
  obtain ⟨y6, ⟨v6, e6, g6⟩, b6, s6⟩ := zDe _ _ _ h6
  cases g0
  cases g1
  cases g2
  cases e3
  cases e4
  cases e5
  cases e6
  refine ⟨((y00, y01), y1, y2, y3, y4, y5, y6), ⟨_, _, _, _, rfl, g3, g4, g5, g6⟩, ?_, fun hn => ⟨s3 (zAp Tryz.underlying68 hn 3 rfl rfl rfl), s4 (zAp Tryz.underlying68 hn 4 rfl rfl rfl), s5 (zAp Tryz.underlying68 hn 5 rfl rfl rfl), s6 (zAp Tryz.underlying68 hn 6 rfl rfl rfl)⟩⟩
  simp only [bR, Rows.uptoBulk, Rows.uptoBulkAll, List.map_cons, List.map_nil]
  omega
theorem opn_reps : Opn enc Tryz.prog w base held 38 (fun cs ys => ∃ v, cs = [v] ∧ RL zDo 8 Any w v ys) (bL bR) (szL 128 szR) := zG3 Tryz.underlying38 (by kernel_rfl) (by kernel_rfl) (by decide) opn_rep
end
end
end Go.Proofs.YtgjepofinpmcpaaGreatDoor
