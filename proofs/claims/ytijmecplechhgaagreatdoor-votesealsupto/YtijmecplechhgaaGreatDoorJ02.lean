/- sha.Write, begin, New. -/
import Derived.Test.YtijmecplechhgaaGreatDoorOct
import Derived.Test.YtijmecplechhgaaGreatDoorSha
import Derived.Laws.CopyOwn
import Derived.Test.YtijmecplechhgaaGreatDoorJ01
import Derived.Great.BuildSlice
section
namespace Go.Proofs.YtijmecplechhgaaGreatDoor
open Oct
namespace Sha

/-- What a hash holds behind l: in front of rest the bytes of the block that is not full yet. -/
def Rst (l rest : List Int) : Prop := rest.length = 64 ∧ Byt rest ∧ rest.take (l.length % 64) = l.drop (64 * (l.length / 64))

theorem byt_app {a b : List Int} (ha : Byt a) (hb : Byt b) : Byt (a ++ b) := fun x hx => by
  rcases List.mem_append.1 hx with h | h
  · exact ha x h
  · exact hb x h
theorem byt_take {a : List Int} (ha : Byt a) (n : Nat) : Byt (a.take n) := fun x hx => ha x (List.mem_of_mem_take hx)
theorem byt_drop {a : List Int} (ha : Byt a) (n : Nat) : Byt (a.drop n) := fun x hx => ha x (List.mem_of_mem_drop hx)
theorem byt_splice {a x : List Int} (ha : Byt a) (hx : Byt x) (f : Nat) : Byt (splice a f x) := byt_app (byt_take ha f) (byt_app hx (byt_drop ha _))
theorem byt_zero (n : Nat) : Byt (List.replicate n 0) := fun x hx => by
  rw [(List.mem_replicate.1 hx).2]
  decide
theorem splice_take {rest x : List Int} {f : Nat} (hr : rest.length = 64) (hn : f + x.length ≤ 64) : (splice rest f x).take (f + x.length) = rest.take f ++ x := by
  unfold splice
  rw [← List.append_assoc, List.take_append_of_le_length (by simp; omega), List.take_of_length_le (by simp; omega)]

theorem rest_new {l rest x : List Int} (h : Rst l rest) (hx : Byt x) (hn : l.length % 64 + x.length ≤ 64) :
    (splice rest (l.length % 64) x).length = 64 ∧ Byt (splice rest (l.length % 64) x) ∧ (splice rest (l.length % 64) x).take (l.length % 64 + x.length) = (l ++ x).drop (64 * (l.length / 64)) := by
  obtain ⟨h1, h2, h3⟩ := h
  refine ⟨by rw [length_splice _ _ _ (by omega), h1], byt_splice h2 hx _, ?_⟩
  rw [splice_take h1 hn, h3, List.drop_append_of_le_length (by omega)]
theorem rest_more {l rest x : List Int} (h : Rst l rest) (hx : Byt x) (hn : l.length % 64 + x.length < 64) :
    Rst (l ++ x) (splice rest (l.length % 64) x) ∧ blks (l ++ x) ((l ++ x).length / 64) = blks l (l.length / 64) := by
  obtain ⟨h1, h2, h3⟩ := rest_new h hx (by omega)
  have e1 : (l ++ x).length / 64 = l.length / 64 := by rw [List.length_append]; omega
  have e2 : (l ++ x).length % 64 = l.length % 64 + x.length := by rw [List.length_append]; omega
  exact ⟨⟨h1, h2, by rw [e1, e2]; exact h3⟩, by rw [e1, blks_app l x _ (by omega)]⟩
theorem rest_full {l rest x : List Int} (h : Rst l rest) (hx : Byt x) (hn : l.length % 64 + x.length = 64) :
    Rst (l ++ x) (splice rest (l.length % 64) x) ∧ blks (l ++ x) ((l ++ x).length / 64) = blk (blks l (l.length / 64)) (splice rest (l.length % 64) x) := by
  obtain ⟨h1, h2, h3⟩ := rest_new h hx (by omega)
  have e1 : (l ++ x).length / 64 = l.length / 64 + 1 := by rw [List.length_append]; omega
  have e2 : (l ++ x).length % 64 = 0 := by rw [List.length_append]; omega
  refine ⟨⟨h1, h2, ?_⟩, ?_⟩
  · rw [e1, e2, List.take_zero, List.drop_eq_nil_of_le (by rw [List.length_append]; omega)]
  · rw [e1, blks, blks_app l x _ (by omega), ← h3, hn, List.take_take, Nat.min_self, List.take_of_length_le (by omega)]

/-- The block behind the stop and the zeros. -/
def stopped (rest : List Int) (f : Nat) : List Int := rest.take f ++ 128 :: List.replicate (63 - f) 0
theorem stopped_len {rest : List Int} {f : Nat} (h : rest.length = 64) (hf : f < 64) : (stopped rest f).length = 64 := by
  simp only [stopped, List.length_append, List.length_take, List.length_cons, List.length_replicate]
  omega
theorem byt_stopped {rest : List Int} (h : Byt rest) (f : Nat) : Byt (stopped rest f) := byt_app (byt_take h f) (fun x hx => by
  rcases List.mem_cons.1 hx with rfl | hx
  · decide
  · exact byt_zero _ x hx)
theorem stopped_eq {rest : List Int} {f : Nat} (h : rest.length = 64) (hf : f < 64) : splice (rest.set f 128) (f + 1) (List.replicate (63 - f) 0) = stopped rest f := by
  unfold splice stopped
  rw [List.length_replicate, List.drop_eq_nil_of_le (by simp; omega), List.append_nil, List.take_set, List.take_add_one, List.getElem?_eq_getElem (by omega), List.set_append_right _ _ (by simp; omega)]
  simp [show min f rest.length = f by omega]

/-- The number laid into a block, i bytes of it. -/
def lay (r : List Int) (n : Int) (i : Nat) : List Int := r.take 56 ++ ((be8 n).take i ++ r.drop (56 + i))
theorem lay_len {r : List Int} (h : r.length = 64) (n : Int) (i : Nat) (hi : i ≤ 8) : (lay r n i).length = 64 := by
  simp only [lay, List.length_append, List.length_take, List.length_drop, be8_len]
  omega
theorem lay_zero {r : List Int} (n : Int) : lay r n 0 = r := by simp [lay]
theorem lay_set {r : List Int} (h : r.length = 64) (n : Int) (i : Nat) (hi : i < 8) : (lay r n i).set (56 + i) ((be8 n).getD i 0) = lay r n (i + 1) := by
  obtain ⟨A, hA⟩ : ∃ A, A = r.take 56 := ⟨_, rfl⟩
  have hl : A.length = 56 := by rw [hA]; simp; omega
  have hb : i < (be8 n).length := by rw [be8_len]; exact hi
  have e2 : (be8 n).take (i + 1) = (be8 n).take i ++ [(be8 n).getD i 0] := by
    rw [List.take_add_one, List.getElem?_eq_getElem hb]
    simp [List.getD, List.getElem?_eq_getElem hb]
  have hl2 : ((be8 n).take i).length = i := by simp [be8_len]; omega
  unfold lay
  rw [e2, ← hA, List.set_append_right _ _ (by omega), hl, Nat.add_sub_cancel_left, List.set_append_right _ _ (by omega), hl2, Nat.sub_self, List.append_assoc]
  congr 2
  rw [List.drop_eq_getElem_cons (by omega)]
  simp [Nat.add_assoc]
theorem byt_be8 (n : Int) : Byt (be8 n) := by
  intro b hb
  simp only [be8, List.mem_cons, List.not_mem_nil, or_false] at hb
  rcases hb with rfl | rfl | rfl | rfl | rfl | rfl | rfl | rfl <;> omega
theorem byt_lay {r : List Int} (h : Byt r) (n : Int) (i : Nat) : Byt (lay r n i) := byt_app (byt_take h _) (byt_app (byt_take (byt_be8 n) _) (byt_drop h _))
theorem lay_eight {r : List Int} (h : r.length = 64) (n : Int) : lay r n 8 = r.take 56 ++ be8 n := by
  unfold lay
  rw [List.drop_eq_nil_of_le (by omega), List.append_nil]
  rfl

theorem fin_one {l rest : List Int} (h : Rst l rest) (hf : l.length % 64 < 56) : blk (blks l (l.length / 64)) (lay (stopped rest (l.length % 64)) (8 * l.length) 8) = blks (pad l) ((pad l).length / 64) := by
  obtain ⟨h1, h2, h3⟩ := h
  have e1 : (pad l).length / 64 = l.length / 64 + 1 := by rw [pad_len]; omega
  rw [e1, blks, pad, blks_app l _ _ (by omega)]
  congr 1
  obtain ⟨f, hf'⟩ : ∃ f, f = l.length % 64 := ⟨_, rfl⟩
  obtain ⟨A, hA⟩ : ∃ A, A = rest.take f := ⟨_, rfl⟩
  have hl : A.length = f := by rw [hA]; simp; omega
  have hz : zs l.length = 55 - f := by unfold zs; omega
  have hr : List.replicate (63 - f) (0 : Int) = List.replicate (55 - f) 0 ++ List.replicate 8 0 := by rw [List.replicate_append_replicate]; congr 1; omega
  rw [lay_eight (stopped_len h1 (by omega)), List.drop_append_of_le_length (by omega), ← h3, ← hf', stopped, ← hA, hz, hr]
  rw [← List.cons_append, ← List.append_assoc, ← List.cons_append, ← List.append_assoc]
  rw [List.take_left' (by simp [hl]; omega), List.take_of_length_le (by simp [hl, be8_len]; omega)]
theorem fin_two {l rest : List Int} (h : Rst l rest) (hf : 56 ≤ l.length % 64) :
    blk (blk (blks l (l.length / 64)) (stopped rest (l.length % 64))) (lay (List.replicate 64 0) (8 * l.length) 8) = blks (pad l) ((pad l).length / 64) := by
  obtain ⟨h1, h2, h3⟩ := h
  have e1 : (pad l).length / 64 = l.length / 64 + 1 + 1 := by rw [pad_len]; omega
  obtain ⟨f, hf'⟩ : ∃ f, f = l.length % 64 := ⟨_, rfl⟩
  obtain ⟨A, hA⟩ : ∃ A, A = rest.take f := ⟨_, rfl⟩
  have hl : A.length = f := by rw [hA]; simp; omega
  have hz : zs l.length = (63 - f) + 56 := by unfold zs; omega
  have hp : pad l = l ++ (128 :: List.replicate (63 - f) 0) ++ (List.replicate 56 0 ++ be8 (8 * l.length)) := by
    rw [pad, hz, ← List.replicate_append_replicate]
    simp
  have hX : (l ++ (128 :: List.replicate (63 - f) 0)).length = 64 * (l.length / 64 + 1) := by simp; omega
  have hd : (l ++ (128 :: List.replicate (63 - f) (0 : Int))).drop (64 * (l.length / 64)) = stopped rest f := by
    rw [List.drop_append_of_le_length (by omega), ← h3, ← hf']
    rfl
  have hd2 : (stopped rest f).length = 64 := stopped_len h1 (by omega)
  rw [e1, blks, blks, hp, blks_app _ _ _ (by omega), blks_app l _ _ (by omega), List.drop_append_of_le_length (by omega), hd, List.take_append_of_le_length (by omega), List.take_of_length_le (by omega), ← hf', List.drop_left' hX]
  congr 1
theorem out_hash (l : List Int) : (blks (pad l) ((pad l).length / 64)).out = shaL l := rfl
end Sha
end Go.Proofs.YtijmecplechhgaaGreatDoor
end

section
namespace Go.Proofs.YtijmecplechhgaaGreatDoor
open Go.RowKit Oct Sha

/-- The cells of a Hash. -/
def hrow (s : St) (rest : List Int) (n : Int) : List Value := s.vs ++ (bc rest ++ [.int .u64 n])
theorem hrow_copy (s : St) {rest x : List Int} (n : Int) {f : Nat} (h : rest.length = 64) (hf : f + x.length ≤ 64) : splice (hrow s rest n) (8 + f) (bc x) = hrow s (splice rest f x) n := by
  unfold splice hrow
  rw [bc_len, bc_app, bc_app, List.append_assoc, List.append_assoc]
  rw [List.take_append, St.vs_len, List.take_of_length_le (by rw [St.vs_len]; omega), show 8 + f - 8 = f by omega, List.take_append_of_le_length (by rw [bc_len]; omega)]
  rw [List.drop_append, St.vs_len, List.drop_eq_nil_of_le (by rw [St.vs_len]; omega), List.nil_append, show 8 + f + x.length - 8 = f + x.length by omega, List.drop_append_of_le_length (by rw [bc_len]; omega)]
  simp [bc]
theorem hrow_size (s : St) {rest : List Int} (n m : Int) (h : rest.length = 64) : (hrow s rest n).set 72 (.int .u64 m) = hrow s rest m := by
  unfold hrow
  rw [List.set_append_right _ _ (by rw [St.vs_len]; omega), St.vs_len, List.set_append_right _ _ (by rw [bc_len]; omega), bc_len, h]
  rfl
theorem hrow_byte (s : St) {rest : List Int} (n : Int) {f : Nat} (x : Int) (h : rest.length = 64) (hf : f < 64) : (hrow s rest n).set (8 + f) (.int .u8 x) = hrow s (rest.set f x) n := by
  unfold hrow
  rw [List.set_append_right _ _ (by rw [St.vs_len]; omega), St.vs_len, show 8 + f - 8 = f by omega, List.set_append_left _ _ (by rw [bc_len]; omega)]
  simp [bc]
theorem hrow_at72 (s : St) {rest : List Int} (n : Int) (h : rest.length = 64) : (hrow s rest n)[72]? = some (.int .u64 n) := by
  unfold hrow
  rw [List.getElem?_append_right (by rw [St.vs_len]; omega), St.vs_len, List.getElem?_append_right (by rw [bc_len]; omega), bc_len, h]
  rfl
theorem hrow_at (s : St) {rest : List Int} (n : Int) (h : rest.length = 64) (j : Nat) (hj : j < 64) : (hrow s rest n)[8 + j]? = some (.int .u8 (rest.getD j 0)) := by
  unfold hrow
  rw [List.getElem?_append_right (by rw [St.vs_len]; omega), St.vs_len, show 8 + j - 8 = j by omega, List.getElem?_append_left (by rw [bc_len]; omega)]
  exact bc_getD rest j (by omega)
theorem hrow_len (s : St) {rest : List Int} (n : Int) (h : rest.length = 64) : (hrow s rest n).length = 73 := by
  unfold hrow
  simp [St.vs_len, bc_len, h]
theorem Row.bts {w : World} {b : Nat} {t : TypeId} {s : St} {rest : List Int} {n : Int} (h : Row w b t (hrow s rest n)) (hl : rest.length = 64) : Bts w b 8 rest := fun j hj => h.cell (hrow_at s n hl j (by omega))

/-- A Hash at block b behind l. -/
def Hs (w : World) (b : Nat) (l : List Int) : Prop := ∃ rest, Rst l rest ∧ Row w b 129 (hrow (blks l (l.length / 64)) rest (l.length : Int))
theorem Hs.below {w w' : World} {b : Nat} {l : List Int} (h : Hs w b l) (hb : Below w.heap.size w w') : Hs w' b l := by
  obtain ⟨r, h1, h2⟩ := h
  exact ⟨r, h1, h2.below hb⟩
theorem Hs.grown {w w' : World} {b : Nat} {l : List Int} {r : Option Nat} (h : Hs w b l) (hg : w.grownBy w' r) (hr : r ≠ some b) : Hs w' b l := by
  obtain ⟨q, h1, h2⟩ := h
  exact ⟨q, h1, h2.grown hg hr⟩
theorem Hs.lt {w : World} {b : Nat} {l : List Int} (h : Hs w b l) : b < w.heap.size := by
  obtain ⟨q, h1, h2⟩ := h
  exact h2.lt

theorem Tryz.siz5 : (Tryz.prog.info? 5).map (·.size) = some 1 := by kernel_rfl
theorem Tryz.siz41 : (Tryz.prog.info? 113).map (·.size) = some 1 := by kernel_rfl
theorem filled_any (w : World) (b n f : Nat) (hc : w.cell? ⟨b, 72, none⟩ = some (.int .u64 (n : Int))) (hf : f = n % 64) (hn : n < 1152921504606846976) :
    Calls Tryz.prog 111 #[.pointer (some ⟨b, 0, none⟩)] w fun e w' => e = .returned (.int .i64 (f : Int)) ∧ w' = w := by
  go_enter Tryz.func111, Tryz.ntmps111
  go_wp2_with fail
  go_ret
  exact ⟨ret_int (by omega), rfl⟩

/-- How long a slice is. -/
def slen : Value → Nat
  | .slice _ n _ => n
  | _ => 0

theorem cell_grown {w w' : World} {b pb : Nat} (hg : w.grownBy w' (some b)) (hlt : pb < w.heap.size) (hne : pb ≠ b) (o : Nat) : w'.cell? ⟨pb, o, none⟩ = w.cell? ⟨pb, o, none⟩ :=
  World.cell?_of_block (w := w) (w' := w') (a := ⟨pb, o, none⟩) (hg.block pb hlt (fun e => hne (by injection e)))
theorem run_cut (pb off len cap n : Nat) (hn : n ≤ len) (hc : len ≤ cap) : ∃ V : Value, (∀ u : World, (Instr.slice 24 (.slice (some ⟨pb, off, none⟩) len cap) (some (.int .i64 (n : Int))) none none).run Tryz.prog u = .ok V u) ∧
    V.ownBlock = some pb ∧ slen V = len - n ∧ ∀ (w : World) (r : List Int), r.length = len → Byt r → cap ≤ maxLen → (∀ j, j < r.length → w.cell? ⟨pb, off + j, none⟩ = some (.int .u8 (r.getD j 0))) → Rd w V (r.drop n) := by
  have ht : Tryz.prog.underlying 24 = some (.slice (Tryz.prog.elem 24)) := by kernel_rfl
  have hs : ∀ u : World, (sizeOf (Tryz.prog.elem 24)).run Tryz.prog u = .ok 1 u := by
    intro u
    rw [show Tryz.prog.elem 24 = 5 by kernel_rfl]
    obtain ⟨i0, hi, hz0, hz1, hz2⟩ := info_parts Tryz.info5
    simp [sizeOf, typeInfo, hi, hz1]
  refine ⟨if n = cap then .slice (some ⟨pb, off, none⟩) (len - n) (cap - n) else .slice (some ⟨pb, off + n, none⟩) (len - n) (cap - n), fun u => ?_, ?_, ?_, ?_⟩
  · rw [run_slice_l u 24 (some ⟨pb, off, none⟩) len cap ht .i64 n (by omega) (by omega), hs]
    simp only [Result.andThen, sliced, Int.toNat_natCast, Nat.mul_one, Option.map_some, Addr.add_mid]
    by_cases h : n = cap
    · rw [if_pos h, if_pos h.symm]
    · rw [if_neg h, if_neg (fun e => h e.symm)]
  · split <;> rfl
  · split <;> rfl
  · intro w r hrl hb hcm hcell
    by_cases h : n = cap
    · rw [if_pos h, List.drop_eq_nil_of_le (by omega), show len - n = 0 by omega]
      exact ⟨by intro x hx; simp at hx, rdv_none w _ _ (by omega)⟩
    · rw [if_neg h]
      have := Rd.part hb hcell n (len - n) (by omega) (cap - n) (by omega) (by omega)
      rwa [List.take_of_length_le (by rw [List.length_drop]; omega)] at this

set_option maxRecDepth 10000 in
set_option maxHeartbeats 1000000 in
theorem add_any (w : World) (b : Nat) (l : List Int) (pv : Value) (x : List Int) (hh : Hs w b l) (hp : Rd w pv x) (hap : 0 < x.length → ∀ k, pv.ownBlock = some k → k ≠ b) (hb0 : b ≠ 0) (ht : Tab w) (hlen : l.length + x.length < 1152921504606846976) :
    Calls Tryz.prog 98 #[.pointer (some ⟨b, 0, none⟩), pv] w fun e w' => e = .returned (.tuple #[]) ∧ Hs w' b (l ++ x) ∧ w.grownBy w' (some b) := by
  go_enter Tryz.func98, Tryz.ntmps98
  go_wp2_with fail
  go_loopw [1] (fun v wr => ∃ (d r : List Int), d ++ r = l ++ x ∧ Hs wr b d ∧ Rd wr v r ∧ (0 < r.length → ∀ k, v.ownBlock = some k → k ≠ b) ∧ w.grownBy wr (some b)) (fun v _ => slen v)
  case atStart => exact ⟨l, x, rfl, hh, hp, hap, grown_refl _ _⟩
  case round =>
    obtain ⟨d, r, hdr, hd, hr, hap', hg⟩ := hrel
    have HD := (show Hid (d ++ r = l ++ x) from hdr)
    have hdl : d.length + r.length < 1152921504606846976 := by
      have h := congrArg List.length hdr
      simp only [List.length_append] at h
      omega
    have htr : Tab wr := ht.grown hg (by simpa using hb0)
    clear hdr hap hh hp ht hlen
    have hbyt := hr.1
    by_cases hr0 : 0 < r.length
    · obtain ⟨pb, off, cap, rfl, hc1, hc2, hpb, hcell⟩ := hr.at hr0
      have hpbb : pb ≠ b := hap' hr0 pb rfl
      obtain ⟨rest, hre, hro⟩ := hd
      have hrl := hre.1
      obtain ⟨f, hf⟩ : ∃ f, f = d.length % 64 := ⟨_, rfl⟩
      obtain ⟨n, hn⟩ : ∃ n, n = Nat.min r.length (64 - f) := ⟨_, rfl⟩
      obtain ⟨y, hy⟩ : ∃ y, y = r.take n := ⟨_, rfl⟩
      have hn1 : n ≤ r.length := hn ▸ Nat.min_le_left _ _
      have hn2 : n ≤ 64 - f := hn ▸ Nat.min_le_right _ _
      have hf1 : f < 64 := by omega
      have hn0 : 0 < n := by rw [hn]; exact Nat.lt_min.2 ⟨hr0, by omega⟩
      have hyl : y.length = n := by rw [hy, List.length_take]; omega
      have hyb : Byt y := hy ▸ byt_take hbyt n
      have hsrc : ∀ (j : Nat) (v : Value), (bc y)[j]? = some v → wr.cell? ((⟨pb, off, none⟩ : Addr).add j) = some v := by
        intro j v hj
        have hjl : j < y.length := by
          have := (List.getElem?_eq_some_iff.1 hj).1
          rwa [bc_len] at this
        rw [bc_getD y j hjl] at hj
        rw [Addr.add_mid, hcell j (by omega), ← hj, hy]
        simp [List.getD, show j < n by omega]
      have hc72 : wr.cell? ⟨b, 72, none⟩ = some (.int .u64 (d.length : Int)) := hro.cell (hrow_at72 _ _ hrl)
      have hsl : ∀ u : World, (Instr.sliceAt 127 (.pointer (some ⟨b, 8, none⟩)) (some (.int .i64 (f : Int))) none none).run Tryz.prog u = .ok (.slice (some ⟨b, 8 + f, none⟩) (64 - f) (64 - f)) u := run_sl_l b 8 f hf1
      have HF := (show Hid (f = d.length % 64) from hf)
      have HN := (show Hid (n = Nat.min r.length (64 - f)) from hn)
      have HY := (show Hid (y = r.take n) from hy)
      have HS := (show Hid (∀ (j : Nat) (v : Value), (bc y)[j]? = some v → wr.cell? ((⟨pb, off, none⟩ : Addr).add j) = some v) from hsrc)
      have HC := (show Hid (∀ j, j < r.length → wr.cell? ⟨pb, off + j, none⟩ = some (.int .u8 (r.getD j 0))) from hcell)
      have HYL := (show Hid (y.length = n) from hyl)
      have HRL := (show Hid (rest.length = 64) from hrl)
      have HA1 := (show Hid ((bc y).length = Nat.min r.length (64 - f)) by show (bc y).length = _; rw [bc_len, hyl]; exact hn)
      have hA2 : 8 + f + (bc y).length ≤ (hrow (blks d (d.length / 64)) rest (d.length : Int)).length := by rw [bc_len, hyl, hrow_len _ _ hrl]; omega
      have HA3 := (show Hid ((bc y).length = n) by show (bc y).length = _; rw [bc_len, hyl])
      have hd60 : d.length < 1152921504606846976 := by omega
      clear hf hn hy hsrc hcell hap' hr hyl hrl
      go_wp2_with fail
      go_region_held3 (fun _ => True) (trivial)
        (first
          | (go_at_call 111; refine (filled_any wr.drew b d.length f hc72 HF.out hd60).mono ?_; rintro e w' ⟨rfl, rfl⟩)
          | (refine step_copy_to (by rfl) _ _ _ _ (by rfl) 5 Tryz.underlying24 Tryz.siz5 (some ⟨b, 8 + f, none⟩) (some ⟨pb, off, none⟩) (64 - f) (64 - f) r.length cap (by rfl) (by rfl) b (8 + f) _ 129 hro (bc y) HA1.out (fun _ => ⟨rfl, _, rfl, HS.out⟩) hA2 (bc_one _) n HA3.out ?_; intro w2 hr2 hg2))
      have hr2' : Row w2 b 129 (hrow (blks d (d.length / 64)) (splice rest f y) (d.length : Int)) := by
        have := hr2.out
        rwa [hrow_copy _ _ HRL.out (by rw [HYL.out]; omega)] at this
      have hspl : (splice rest f y).length = 64 := by rw [length_splice _ _ _ (by rw [HYL.out, HRL.out]; omega)]; exact HRL.out
      have HSPL := (show Hid ((splice rest f y).length = 64) from hspl)
      have hgr2 : wr.grownBy w2 (some b) := grown_drew hg2
      have hgw2 : w.grownBy w2 (some b) := grown_trans hg (grown_drew hg2) (.inl rfl)
      have hc72b : w2.cell? ⟨b, 72, none⟩ = some (.int .u64 (d.length : Int)) := hr2'.cell (hrow_at72 _ _ hspl)
      have hj72 : 72 < (hrow (blks d (d.length / 64)) (splice rest f y) (d.length : Int)).length := by rw [hrow_len _ _ hspl]; decide
      obtain ⟨V, hcut, hVb, hVl, hVr⟩ := run_cut pb off r.length cap n hn1 hc1
      have HVB := (show Hid (V.ownBlock = some pb) from hVb)
      have HVL := (show Hid (slen V = r.length - n) from hVl)
      have HVR := (show Hid (∀ (w : World), (∀ j, j < r.length → w.cell? ⟨pb, off + j, none⟩ = some (.int .u8 (r.getD j 0))) → Rd w V (r.drop n)) from fun w h => hVr w r rfl hbyt hc2 h)
      clear hg hg2 hr2 hc72 hsl HS HN HA1 HA3 hA2 hVb hVl hVr hspl hro
      by_cases hfull : f + n = 64
      · go_wp2_with (refine wl_set (by rfl) 113 _ _ (by rfl) b 72 (.int .u64 ((d.length : Int) + (n : Int))) (by rfl) (by rfl) 129 _ hr2' hj72 Tryz.siz41 (by rfl) ?_; intro w3 hr3 hg3)
        have hr3' : Row w3 b 129 (hrow (blks d (d.length / 64)) (splice rest f y) ((d.length + n : Nat) : Int)) := by
          have := hr3.out
          rwa [hrow_size _ _ _ HSPL.out, ← Int.natCast_add] at this
        have hgr3 := grown_trans hgr2 hg3 (.inl rfl)
        have hgw3 := grown_trans hgw2 hg3 (.inl rfl)
        have ht3 := htr.grown hgr3 (by simpa using hb0)
        clear hr3 hg3 hgr2 hgw2 hr2' hc72b hj72
        refine (filled_any _ b (d.length + n) 0 (hr3'.cell (hrow_at72 _ _ HSPL.out)) (by have := HF.out; omega) (by omega)).mono ?_
        rintro e w3' ⟨rfl, rfl⟩
        go_wp2_with fail
        have hq : Byt (splice rest f y) := byt_splice hre.2.1 hyb f
        have hlt3 := hr3'.lt
        go_region_held3 (fun _ => True) (trivial)
          ((go_at_call 112; refine (block_any w3'.drew b 129 (blks d (d.length / 64)) (bc (splice rest f y) ++ [Value.int IntKind.u64 ((d.length + n : Nat) : Int)]) hr3'.drew ht3 b 8 (splice rest f y) HSPL.out hq (hr3'.bts HSPL.out) hlt3).mono ?_; rintro e w4 ⟨rfl, hr4, hg4⟩))
        have hgr4 := grown_trans hgr3 (grown_drew hg4) (.inl rfl)
        have hgw4 := grown_trans hgw3 (grown_drew hg4) (.inl rfl)
        have hx := rest_full (x := y) hre hyb (by rw [HYL.out, ← HF.out]; exact hfull)
        rw [← HF.out] at hx
        have HH := (show Hid (Hs w4 b (d ++ y)) from ⟨splice rest f y, hx.1, by
          rw [hx.2, List.length_append, HYL.out]
          exact hr4⟩)
        have HR := (show Hid (Rd w4 V (r.drop n)) from HVR.out w4 fun j hj => (cell_grown hgr4 hpb hpbb _).trans (HC.out j hj))
        clear hr3' hgr3 hgw3 ht3 hr4 hg4 hgr4 hx hq htr
        go_wp2_with fail
        go_roundw
        case rel =>
          refine ⟨d ++ y, r.drop n, ?_, HH, HR, fun _ k hk => ?_, hgw4⟩
          · rw [List.append_assoc, HY.out, List.take_append_drop]
            exact HD.out
          · rw [HVB.out] at hk
            injection hk with hk
            omega
        case measure =>
          show slen V < r.length
          rw [HVL.out]
          omega
      · go_wp2_with (refine wl_set (by rfl) 113 _ _ (by rfl) b 72 (.int .u64 ((d.length : Int) + (n : Int))) (by rfl) (by rfl) 129 _ hr2' hj72 Tryz.siz41 (by rfl) ?_; intro w3 hr3 hg3)
        have hr3' : Row w3 b 129 (hrow (blks d (d.length / 64)) (splice rest f y) ((d.length + n : Nat) : Int)) := by
          have := hr3.out
          rwa [hrow_size _ _ _ HSPL.out, ← Int.natCast_add] at this
        have hgr3 := grown_trans hgr2 hg3 (.inl rfl)
        have hgw3 := grown_trans hgw2 hg3 (.inl rfl)
        have ht3 := htr.grown hgr3 (by simpa using hb0)
        clear hr3 hg3 hgr2 hgw2 hr2' hc72b hj72
        have hfn : 0 < f + n := by omega
        have hne : ((f + n : Nat) : Int) ≠ 0 := by omega
        have hne' : decide (((f + n : Nat) : Int) = 0) = false := by simpa using hne
        refine (filled_any _ b (d.length + n) (f + n) (hr3'.cell (hrow_at72 _ _ HSPL.out)) (by have := HF.out; omega) (by omega)).mono ?_
        rintro e w3' ⟨rfl, rfl⟩
        have hx := rest_more (x := y) hre hyb (by rw [HYL.out, ← HF.out]; omega)
        rw [← HF.out] at hx
        have HH := (show Hid (Hs _ b (d ++ y)) from ⟨splice rest f y, hx.1, by
          rw [hx.2, List.length_append, HYL.out]
          exact hr3'⟩)
        have HR := (show Hid (Rd _ V (r.drop n)) from HVR.out _ fun j hj => (cell_grown hgr3 hpb hpbb _).trans (HC.out j hj))
        clear hr3' hgr3 ht3 hx htr
        go_wp2_with fail
        go_roundw
        case rel =>
          refine ⟨d ++ y, r.drop n, ?_, HH, HR, fun _ k hk => ?_, hgw3⟩
          · rw [List.append_assoc, HY.out, List.take_append_drop]
            exact HD.out
          · rw [HVB.out] at hk
            injection hk with hk
            omega
        case measure =>
          show slen V < r.length
          rw [HVL.out]
          omega
    · have hr' : r = [] := List.eq_nil_of_length_eq_zero (by omega)
      subst hr'
      obtain ⟨ao, cap, rfl, hcm⟩ := hr.empty rfl
      have hdd : Hs wr b (l ++ x) := by rw [← HD.out, List.append_nil]; exact hd
      go_wp2_with fail
      go_end0
      exact ⟨rfl, hdd, hg⟩
end Go.Proofs.YtijmecplechhgaaGreatDoor
end

section
namespace Go.Proofs.YtijmecplechhgaaGreatDoor
open Go.RowKit Oct Sha

theorem flat_snoc {ll : List (List Int)} {k : Nat} {x : List Int} (h : ll[k]? = some x) : (ll.take (k + 1)).flatten = (ll.take k).flatten ++ x := by
  rw [List.take_add_one, h]
  simp
theorem flat_le (ll : List (List Int)) (k : Nat) : (ll.take k).flatten.length ≤ ll.flatten.length := by
  conv => rhs; rw [← List.take_append_drop k ll]
  rw [List.flatten_append, List.length_append]
  omega
theorem All2.nth {α β : Type} {R : α → β → Prop} {xs : List α} {ys : List β} (h : All2 R xs ys) {i : Nat} {a : α} (ha : xs[i]? = some a) : ∃ b, ys[i]? = some b ∧ R a b := by
  have hl := h.len
  have hi : i < xs.length := (List.getElem?_eq_some_iff.1 ha).1
  have hb : ys[i]? = some ys[i] := List.getElem?_eq_getElem (by omega)
  exact ⟨_, hb, h.get ha hb⟩

set_option maxHeartbeats 1000000 in
theorem write_any (w : World) (b : Nat) (l : List Int) (v : Value) (vs : List Value) (ll : List (List Int)) (hh : Hs w b l) (hv : Rdv w v vs) (he : All2 (Rd w) vs ll) (ha : ∀ k, v.ownBlock = some k → k ≠ b)
    (hb : ∀ (i : Nat) (u : Value) (x : List Int), vs[i]? = some u → ll[i]? = some x → 0 < x.length → ∀ k, u.ownBlock = some k → k ≠ b) (hb0 : b ≠ 0) (ht : Tab w) (hlen : l.length + ll.flatten.length < 1152921504606846976) :
    Calls Tryz.prog 67 #[.pointer (some ⟨b, 0, none⟩), v] w fun e w' => e = .returned (.tuple #[]) ∧ Hs w' b (l ++ ll.flatten) ∧ w.grownBy w' (some b) := by
  by_cases h0 : 0 < vs.length
  · obtain ⟨vb, off, cap, rfl, hc1, hc2, hvb, hcell⟩ := hv.at h0
    have hvbb : vb ≠ b := ha vb rfl
    have HC := (show Hid (∀ (j : Nat) (u : Value), vs[j]? = some u → w.cell? ⟨vb, off + j, none⟩ = some u) from hcell)
    have hm : (vs.length : Int) ≤ 9223372036854775807 := by unfold maxLen at hc2; omega
    clear hcell hv ha
    go_enter Tryz.func67, Tryz.ntmps67
    go_wp2_with fail
    go_loopw [8] (fun i wr => ∃ k : Nat, k ≤ vs.length ∧ i = .int .i64 k ∧ Hs wr b (l ++ (ll.take k).flatten) ∧ w.grownBy wr (some b)) (fun i _ => vs.length - (intOf i).toNat)
    case atStart => exact ⟨0, by omega, rfl, by simpa using hh, grown_refl _ _⟩
    case round =>
      obtain ⟨k, hk, rfl, hs, hg⟩ := hrel
      by_cases hkl : k < vs.length
      · obtain ⟨u, hu⟩ : ∃ u, vs[k]? = some u := ⟨_, List.getElem?_eq_getElem hkl⟩
        obtain ⟨x, hx, hr⟩ := he.nth hu
        have hcu : wr.cell? ⟨vb, off + k, none⟩ = some u := (cell_grown hg hvb hvbb _).trans (HC.out k u hu)
        have hub : 0 < x.length → ∀ k, u.ownBlock = some k → k ≠ b := hb k u x hu hx
        have hrr : Rd wr u x := hr.grown hg (fun hne k hk => by injection hk with hk; subst hk; exact fun e => hub (List.length_pos_iff.2 hne) _ e rfl)
        have htr := ht.grown hg (by simpa using hb0)
        have hfl := flat_snoc hx
        have hle : (ll.take k).flatten.length + x.length ≤ ll.flatten.length := by
          have := flat_le ll (k + 1)
          rw [hfl, List.length_append] at this
          exact this
        have HF := (show Hid ((ll.take (k + 1)).flatten = (ll.take k).flatten ++ x) from hfl)
        obtain ⟨ao, ucap, rfl, hucap⟩ := hrr.form
        clear hu hr hx hfl
        go_wp2_with fail
        refine (add_any wr b _ _ x hs hrr hub hb0 htr (by rw [List.length_append]; omega)).mono ?_
        rintro e w2 ⟨rfl, hs2, hg2⟩
        have HS2 := (show Hid (Hs w2 b (l ++ (ll.take (k + 1)).flatten)) by rw [HF.out, ← List.append_assoc]; exact hs2)
        have hg2' := grown_trans hg hg2 (.inl rfl)
        clear hs2 hg2 hg hs hcu hub hrr htr hle HF
        go_wp2_with fail
        go_roundw
        case rel => exact ⟨k + 1, by omega, by go_num, HS2, hg2'⟩
        case measure => simp [intOf]; omega
      · have hs' : Hs wr b (l ++ ll.flatten) := by
          rwa [List.take_of_length_le (by rw [← he.len]; omega)] at hs
        go_wp2_with fail
        go_end0
        exact ⟨rfl, hs', hg⟩
  · obtain ⟨ao, cap, rfl, hcap⟩ := hv.form
    have hvs : vs = [] := List.eq_nil_of_length_eq_zero (by omega)
    subst hvs
    have hll : ll = [] := List.eq_nil_of_length_eq_zero (by rw [← he.len]; rfl)
    subst hll
    rw [List.flatten_nil, List.append_nil]
    clear hv he ha hb h0 hlen
    go_enter Tryz.func67, Tryz.ntmps67
    go_wp2_with fail
    refine wp_loop_rounds 1 ?_
    rw [rounds_succ]
    go_wp2_with fail
    go_end0
    exact ⟨rfl, hh, grown_refl _ _⟩

theorem begin_any (w : World) : Calls Tryz.prog 97 #[] w fun e w' => e = .returned (.agg st0.vs.toArray) ∧ Below w.heap.size w w' := by
  go_enter Tryz.func97, Tryz.ntmps97
  go_wp2_with fail
  exact bodyPost_ret (v := .agg st0.vs.toArray) (results_cell_row rfl _ _ w.heap.size _ st0.vs.toArray (0, 0) _ (by rfl) (heap_alloc_new w _) Tryz.und38 rfl (by kernel_rfl)) rfl ⟨rfl, below_alloc w _⟩
theorem new_any (w : World) : Calls Tryz.prog 66 #[] w fun e w' => ∃ b, e = .returned (.pointer (some ⟨b, 0, none⟩)) ∧ w.heap.size ≤ b ∧ Hs w' b [] ∧ Below w.heap.size w w' := by
  go_enter Tryz.func66, Tryz.ntmps66
  go_wp2_with fail
  refine (begin_any w).mono ?_
  rintro e w1 ⟨rfl, hb1⟩
  go_wp2_with (refine wpList_buildTo (by rfl) 129 _ (by rfl) _ (by rfl) (hrow st0 (List.replicate 64 0) 0).toArray (by kernel_rfl) ?_)
  go_ret
  exact ⟨w1.heap.size, rfl, hb1.size, ⟨List.replicate 64 0, ⟨rfl, byt_zero 64, rfl⟩, Row.new w1 129 _⟩, below_and hb1 (Nat.le_refl _) (below_alloc w1 _)⟩
end Go.Proofs.YtijmecplechhgaaGreatDoor
end
