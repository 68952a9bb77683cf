/- sha.Hash in memory; filled, add, Write. -/
import Derived.Test.YtgpkngiakhdmhaaDoorSBAU
import Derived.Test.YtgpkngiakhdmhaaDoorSBAG
namespace Go.Proofs.YtgpkngiakhdmhaaDoor
section
open Go.RowKit Oct Sha
/-- The constants' variable. -/
def Tab (w : World) : Prop := ∀ t, t < 64 → w.cell? ⟨0, t, none⟩ = some (.int .u32 (wi (kk.getD t 0)))
theorem Tab.keep {w w' : World} (h : Tab w) (h0 : w'.heap[0]? = w.heap[0]?) : Tab w' := fun t ht => (World.cell?_of_block (w := w) (w' := w') (a := ⟨0, t, none⟩) h0).trans (h t ht)
theorem Tab.pos {w : World} (h : Tab w) : 0 < w.heap.size := World.block_lt_of_cell? w _ (h 0 (by decide))
theorem Tab.below {w w' : World} (h : Tab w) (hb : Below w.heap.size w w') : Tab w' := h.keep (hb.block 0 h.pos)
theorem Tab.grown {w w' : World} {r : Option Nat} (h : Tab w) (hg : w.grownBy w' r) (hr : r ≠ some 0) : Tab w' := h.keep (hg.block 0 h.pos (fun e => hr e.symm))
theorem run_ixv {t e : TypeId} {n : Nat} (hu : Tryd.prog.underlying t = some (.array n e)) (he : (Tryd.prog.info? e).map (·.size) = some 1) (hg : Tryd.prog.underlying e = some (.int .u32)) (ws : List (BitVec 32)) (i : Nat) (hi : i < n) (hl : ws.length = n) (u : World) :
    (Instr.index t (.agg (ws.map wv).toArray) (.int .i64 (i : Int))).run Tryd.prog u = .ok (.int .u32 (wi (ws.getD i 0))) u := by
  have h : 0 ≤ (i : Int) ∧ (i : Int) < (n : Int) := by omega
  cases hq : Tryd.prog.info? e with
  | none => simp [hq] at he
  | some i0 =>
    simp only [hq, Option.map_some, Option.some.injEq] at he
    have hx : i < ws.length := by omega
    simp [Instr.index, run_underlying hu, asIntOf, h, hi, part, isAgg, run_underlying hg, sizeOf, typeInfo, hq, he, wv, List.getElem?_eq_getElem hx]
theorem Tryd.und38 : Tryd.prog.underlying 118 = some (.array 8 93) := by kernel_rfl
theorem run_ix8 (b i : Nat) (hi : i < 8) (u : World) : (Instr.indexAt 118 (.pointer (some ⟨b, 0, none⟩)) (.int .i64 (i : Int))).run Tryd.prog u = .ok (.pointer (some ⟨b, i, none⟩)) u := by
  have ht : Tryd.prog.underlying 118 = some (.array (Tryd.prog.arrayLen 118) (Tryd.prog.elem 118)) := by kernel_rfl
  have hn : Tryd.prog.arrayLen 118 = 8 := by kernel_rfl
  have hs : (sizeOf (Tryd.prog.elem 118)).run Tryd.prog u = .ok 1 u := by
    rw [show Tryd.prog.elem 118 = 93 by kernel_rfl]
    cases hq : Tryd.prog.info? 93 with
    | none => have := Tryd.info34; simp [hq] at this
    | some i0 =>
      have h1 := Tryd.info34
      simp only [hq, Option.map_some, Option.some.injEq] at h1
      simp [sizeOf, typeInfo, hq, h1]
  rw [run_indexAt_array u 118 _ .i64 i ht, hn, if_pos (by omega), hs]
  simp only [Result.andThen, Addr.add_mid]
  simp
/-- The first k words of a state raised by those of another. -/
def raised (s v : St) (k : Nat) : List (BitVec 32) := (s.add v).ws.take k ++ s.ws.drop k
theorem raised_at (s v : St) (k : Nat) (hk : k < 8) : (raised s v k)[k]? = some (s.ws.getD k 0) := by
  rcases (by omega : k = 0 ∨ k = 1 ∨ k = 2 ∨ k = 3 ∨ k = 4 ∨ k = 5 ∨ k = 6 ∨ k = 7) with rfl | rfl | rfl | rfl | rfl | rfl | rfl | rfl <;> rfl
theorem raised_set (s v : St) (k : Nat) (hk : k < 8) : (raised s v k).set k (s.ws.getD k 0 + v.ws.getD k 0) = raised s v (k + 1) := by
  rcases (by omega : k = 0 ∨ k = 1 ∨ k = 2 ∨ k = 3 ∨ k = 4 ∨ k = 5 ∨ k = 6 ∨ k = 7) with rfl | rfl | rfl | rfl | rfl | rfl | rfl | rfl <;> rfl
theorem raised_len (s v : St) (k : Nat) (hk : k ≤ 8) : (raised s v k).length = 8 := by
  simp only [raised, List.length_append, List.length_take, List.length_drop, St.ws_len]
  omega
theorem raised_set' (s v : St) (k : Nat) (hk : k < 8) (tl : List Value) : ((raised s v k).map wv ++ tl).set k (.int .u32 (wi (s.ws.getD k 0 + v.ws.getD k 0))) = (raised s v (k + 1)).map wv ++ tl := by
  rw [List.set_append_left _ _ (by rw [List.length_map, raised_len _ _ _ (by omega)]; exact hk), ← raised_set s v k hk, List.map_set]
  rfl
set_option maxHeartbeats 1000000 in
theorem block_any (w : World) (b : Nat) (t : TypeId) (s : St) (tl : List Value) (hr : Row w b t (s.vs ++ tl)) (ht : Tab w) (cb co : Nat) (p : List Int) (hp : p.length = 64) (hb : Byt p) (hbt : Bts w cb co p) (hcb : cb < w.heap.size) :
    Calls Tryd.prog 83 #[.pointer (some ⟨b, 0, none⟩), .pointer (some ⟨cb, co, none⟩)] w fun e w' => e = .returned (.tuple #[]) ∧ Row w' b t ((blk s p).vs ++ tl) ∧ w.grownBy w' (some b) := by
  have hblt := hr.lt
  have c0 : w.cell? ⟨b, 0, none⟩ = some (.int .u32 (wi s.a)) := hr.cell rfl
  have c1 : w.cell? ⟨b, 1, none⟩ = some (.int .u32 (wi s.b)) := hr.cell rfl
  have c2 : w.cell? ⟨b, 2, none⟩ = some (.int .u32 (wi s.c)) := hr.cell rfl
  have c3 : w.cell? ⟨b, 3, none⟩ = some (.int .u32 (wi s.d)) := hr.cell rfl
  have c4 : w.cell? ⟨b, 4, none⟩ = some (.int .u32 (wi s.e)) := hr.cell rfl
  have c5 : w.cell? ⟨b, 5, none⟩ = some (.int .u32 (wi s.f)) := hr.cell rfl
  have c6 : w.cell? ⟨b, 6, none⟩ = some (.int .u32 (wi s.g)) := hr.cell rfl
  have c7 : w.cell? ⟨b, 7, none⟩ = some (.int .u32 (wi s.h)) := hr.cell rfl
  obtain ⟨ws, hws⟩ : ∃ ws, ws = sch p 64 := ⟨_, rfl⟩
  obtain ⟨V, hV⟩ : ∃ V, V = rnd ws s 64 := ⟨_, rfl⟩
  have hwl : ws.length = 64 := by rw [hws, sch_len]
  rw [show blk s p = s.add V by rw [hV, hws]; rfl]
  have HSP := (show Hid (∀ u : World, Bts u cb co p → cb < u.heap.size → Calls Tryd.prog 84 #[.pointer (some ⟨cb, co, none⟩)] u fun e w' => e = .returned (.agg (ws.map wv).toArray) ∧ Below u.heap.size u w') by
    rw [hws]
    exact fun u h1 h2 => spread_any u cb co p hp hb h1 h2)
  have HL := (show Hid (ws.length = 64) from hwl)
  have HV := (show Hid (V = rnd ws s 64) from hV)
  clear hwl hws hV
  go_enter Tryd.func83, Tryd.ntmps83
  go_wp2_with fail
  refine (HSP.out _ (hbt.below hcb (below_alloc w _)) (by simp; omega)).mono ?_
  rintro e w1 ⟨rfl, hb1⟩
  have hrN : Row w1 w.heap.size 118 s.vs := (Row.new w 118 s.vs).below hb1
  have hb1' := below_and (below_alloc w _) (Nat.le_refl _) hb1
  clear hb1 c0 c1 c2 c3 c4 c5 c6 c7 hbt hp hb hcb HSP
  go_wp2_with fail
  go_loopw [14] (fun i wr => ∃ k : Nat, k ≤ 64 ∧ i = .int .i64 k ∧ Row wr w.heap.size 118 (rnd ws s k).vs ∧ Below w.heap.size w wr) (fun i _ => 64 - (intOf i).toNat)
  case atStart => exact ⟨0, by omega, rfl, hrN, hb1'⟩
  case round =>
    obtain ⟨k, hk, rfl, hrk, hbel⟩ := hrel
    by_cases hk64 : k < 64
    · have hix : ∀ u : World, (Instr.index 129 (.agg (ws.map wv).toArray) (.int .i64 (k : Int))).run Tryd.prog u = .ok (.int .u32 (wi (ws.getD k 0))) u := run_ixv Tryd.und45 Tryd.info34 Tryd.underlying93 ws k hk64 HL.out
      have hik : ∀ u : World, (Instr.indexAt 129 (.pointer (some ⟨0, 0, none⟩)) (.int .i64 (k : Int))).run Tryd.prog u = .ok (.pointer (some ⟨0, k, none⟩)) u := run_ix 0 k hk64
      have hck : wr.cell? ⟨0, k, none⟩ = some (.int .u32 (wi (kk.getD k 0))) := ht.below hbel k hk64
      go_wp2_with fail
      rw [add_wi]
      refine (step_any wr w.heap.size 118 (rnd ws s k) [] (kk.getD k 0 + ws.getD k 0) (by rw [List.append_nil]; exact hrk)).mono ?_
      rintro e w2 ⟨rfl, hr2, hg2⟩
      rw [List.append_nil] at hr2
      have HR2 := (show Hid (Row w2 w.heap.size 118 (rnd ws s (k + 1)).vs) from hr2)
      have hb2 := hbel.trans (grown_below hg2 hbel.size (fun k hk => by cases hk; exact Nat.le_refl _))
      clear hr2 hg2 hrk hck hbel
      go_wp2_with fail
      go_roundw
      case rel => exact ⟨k + 1, by omega, by go_num, HR2, hb2⟩
      case measure => simp [intOf]; omega
    · have hrV : Row wr w.heap.size 118 V.vs := by rw [HV.out, show 64 = k by omega]; exact hrk
      have c0 : wr.cell? ⟨w.heap.size, 0, none⟩ = some (.int .u32 (wi V.a)) := hrV.cell rfl
      have c1 : wr.cell? ⟨w.heap.size, 1, none⟩ = some (.int .u32 (wi V.b)) := hrV.cell rfl
      have c2 : wr.cell? ⟨w.heap.size, 2, none⟩ = some (.int .u32 (wi V.c)) := hrV.cell rfl
      have c3 : wr.cell? ⟨w.heap.size, 3, none⟩ = some (.int .u32 (wi V.d)) := hrV.cell rfl
      have c4 : wr.cell? ⟨w.heap.size, 4, none⟩ = some (.int .u32 (wi V.e)) := hrV.cell rfl
      have c5 : wr.cell? ⟨w.heap.size, 5, none⟩ = some (.int .u32 (wi V.f)) := hrV.cell rfl
      have c6 : wr.cell? ⟨w.heap.size, 6, none⟩ = some (.int .u32 (wi V.g)) := hrV.cell rfl
      have c7 : wr.cell? ⟨w.heap.size, 7, none⟩ = some (.int .u32 (wi V.h)) := hrV.cell rfl
      have hrb := hr.below hbel
      have hgb := grown_of_below hbel (some b)
      clear hrk hrV HV HL ht hb1' hrN
      go_wp2_with fail
      go_loopw [26] (fun i wr => ∃ j : Nat, j ≤ 8 ∧ i = .int .i64 j ∧ Row wr b t ((raised s V j).map wv ++ tl) ∧ w.grownBy wr (some b)) (fun i _ => 8 - (intOf i).toNat)
      case atStart => exact ⟨0, by omega, rfl, hrb, hgb⟩
      case round =>
        clear hrb hgb c0 c1 c2 c3 c4 c5 c6 c7 hr hbel
        obtain ⟨j, hj, rfl, hrj, hgj⟩ := hrel
        by_cases hj8 : j < 8
        · have hix : ∀ u : World, (Instr.index 118 (.agg #[.int .u32 (wi V.a), .int .u32 (wi V.b), .int .u32 (wi V.c), .int .u32 (wi V.d), .int .u32 (wi V.e), .int .u32 (wi V.f), .int .u32 (wi V.g), .int .u32 (wi V.h)]) (.int .i64 (j : Int))).run Tryd.prog u = .ok (.int .u32 (wi (V.ws.getD j 0))) u := run_ixv Tryd.und38 Tryd.info34 Tryd.underlying93 V.ws j hj8 rfl
          have hik : ∀ u : World, (Instr.indexAt 118 (.pointer (some ⟨b, 0, none⟩)) (.int .i64 (j : Int))).run Tryd.prog u = .ok (.pointer (some ⟨b, j, none⟩)) u := run_ix8 b j hj8
          have hcj : wr.cell? ⟨b, j, none⟩ = some (.int .u32 (wi (s.ws.getD j 0))) := hrj.cell (by rw [List.getElem?_append_left (by rw [List.length_map, raised_len _ _ _ (by omega)]; exact hj8), List.getElem?_map, raised_at s V j hj8]; rfl)
          have hfj := hrj.frozen j
          go_wp2_with fail
          go_region
          go_wp2_with fail
          go_roundw
          case rel =>
            rw [add_wi]
            exact ⟨j + 1, by omega, by go_num, raised_set' s V j hj8 tl ▸ (hrj.set j _).drew, grown_to_drew (grown_trans hgj (grown_set _ _ _ _) (.inl rfl))⟩
          case measure => simp [intOf]; omega
        · have hrf : Row wr b t ((s.add V).vs ++ tl) := by
            rw [show j = 8 by omega] at hrj
            exact hrj
          go_wp2_with fail
          go_end0
          exact ⟨rfl, hrf, hgj⟩
end
section
open Go.RowKit Oct Sha
/-- The cells of a Hash. -/
def hrow (s : St) (rest : List Int) (n : Int) : List Value := s.vs ++ (bc rest ++ [.int .u64 n])
theorem hrow_copy (s : St) {rest x : List Int} (n : Int) {f : Nat} (h : rest.length = 64) (hf : f + x.length ≤ 64) : splice (hrow s rest n) (8 + f) (bc x) = hrow s (splice rest f x) n := by
  unfold splice hrow
  rw [bc_len, bc_app, bc_app, List.append_assoc, List.append_assoc]
  rw [List.take_append, St.vs_len, List.take_of_length_le (by rw [St.vs_len]; omega), show 8 + f - 8 = f by omega, List.take_append_of_le_length (by rw [bc_len]; omega)]
  rw [List.drop_append, St.vs_len, List.drop_eq_nil_of_le (by rw [St.vs_len]; omega), List.nil_append, show 8 + f + x.length - 8 = f + x.length by omega, List.drop_append_of_le_length (by rw [bc_len]; omega)]
  simp [bc]
theorem hrow_size (s : St) {rest : List Int} (n m : Int) (h : rest.length = 64) : (hrow s rest n).set 72 (.int .u64 m) = hrow s rest m := by
  unfold hrow
  rw [List.set_append_right _ _ (by rw [St.vs_len]; omega), St.vs_len, List.set_append_right _ _ (by rw [bc_len]; omega), bc_len, h]
  rfl
theorem hrow_byte (s : St) {rest : List Int} (n : Int) {f : Nat} (x : Int) (h : rest.length = 64) (hf : f < 64) : (hrow s rest n).set (8 + f) (.int .u8 x) = hrow s (rest.set f x) n := by
  unfold hrow
  rw [List.set_append_right _ _ (by rw [St.vs_len]; omega), St.vs_len, show 8 + f - 8 = f by omega, List.set_append_left _ _ (by rw [bc_len]; omega)]
  simp [bc]
theorem hrow_at72 (s : St) {rest : List Int} (n : Int) (h : rest.length = 64) : (hrow s rest n)[72]? = some (.int .u64 n) := by
  unfold hrow
  rw [List.getElem?_append_right (by rw [St.vs_len]; omega), St.vs_len, List.getElem?_append_right (by rw [bc_len]; omega), bc_len, h]
  rfl
theorem hrow_at (s : St) {rest : List Int} (n : Int) (h : rest.length = 64) (j : Nat) (hj : j < 64) : (hrow s rest n)[8 + j]? = some (.int .u8 (rest.getD j 0)) := by
  unfold hrow
  rw [List.getElem?_append_right (by rw [St.vs_len]; omega), St.vs_len, show 8 + j - 8 = j by omega, List.getElem?_append_left (by rw [bc_len]; omega)]
  exact bc_getD rest j (by omega)
theorem hrow_len (s : St) {rest : List Int} (n : Int) (h : rest.length = 64) : (hrow s rest n).length = 73 := by
  unfold hrow
  simp [St.vs_len, bc_len, h]
theorem Row.bts {w : World} {b : Nat} {t : TypeId} {s : St} {rest : List Int} {n : Int} (h : Row w b t (hrow s rest n)) (hl : rest.length = 64) : Bts w b 8 rest := fun j hj => h.cell (hrow_at s n hl j (by omega))
/-- A Hash at block b behind l. -/
def Hs (w : World) (b : Nat) (l : List Int) : Prop := ∃ rest, Rst l rest ∧ Row w b 122 (hrow (blks l (l.length / 64)) rest (l.length : Int))
theorem Hs.below {w w' : World} {b : Nat} {l : List Int} (h : Hs w b l) (hb : Below w.heap.size w w') : Hs w' b l := by
  obtain ⟨r, h1, h2⟩ := h
  exact ⟨r, h1, h2.below hb⟩
theorem Hs.grown {w w' : World} {b : Nat} {l : List Int} {r : Option Nat} (h : Hs w b l) (hg : w.grownBy w' r) (hr : r ≠ some b) : Hs w' b l := by
  obtain ⟨q, h1, h2⟩ := h
  exact ⟨q, h1, h2.grown hg hr⟩
theorem Hs.lt {w : World} {b : Nat} {l : List Int} (h : Hs w b l) : b < w.heap.size := by
  obtain ⟨q, h1, h2⟩ := h
  exact h2.lt
theorem Tryd.siz5 : (Tryd.prog.info? 5).map (·.size) = some 1 := by kernel_rfl
theorem Tryd.siz41 : (Tryd.prog.info? 95).map (·.size) = some 1 := by kernel_rfl
theorem filled_any (w : World) (b n f : Nat) (hc : w.cell? ⟨b, 72, none⟩ = some (.int .u64 (n : Int))) (hf : f = n % 64) (hn : n < 1152921504606846976) :
    Calls Tryd.prog 82 #[.pointer (some ⟨b, 0, none⟩)] w fun e w' => e = .returned (.int .i64 (f : Int)) ∧ w' = w := by
  go_enter Tryd.func82, Tryd.ntmps82
  go_wp2_with fail
  go_ret
  exact ⟨ret_int (by omega), rfl⟩
/-- How long a slice is. -/
def slen : Value → Nat
  | .slice _ n _ => n
  | _ => 0
theorem cell_grown {w w' : World} {b pb : Nat} (hg : w.grownBy w' (some b)) (hlt : pb < w.heap.size) (hne : pb ≠ b) (o : Nat) : w'.cell? ⟨pb, o, none⟩ = w.cell? ⟨pb, o, none⟩ :=
  World.cell?_of_block (w := w) (w' := w') (a := ⟨pb, o, none⟩) (hg.block pb hlt (fun e => hne (by injection e)))
theorem run_cut (pb off len cap n : Nat) (hn : n ≤ len) (hc : len ≤ cap) : ∃ V : Value, (∀ u : World, (Instr.slice 26 (.slice (some ⟨pb, off, none⟩) len cap) (some (.int .i64 (n : Int))) none none).run Tryd.prog u = .ok V u) ∧
    V.ownBlock = some pb ∧ slen V = len - n ∧ ∀ (w : World) (r : List Int), r.length = len → Byt r → cap ≤ maxLen → (∀ j, j < r.length → w.cell? ⟨pb, off + j, none⟩ = some (.int .u8 (r.getD j 0))) → Rd w V (r.drop n) := by
  have ht : Tryd.prog.underlying 26 = some (.slice (Tryd.prog.elem 26)) := by kernel_rfl
  have hs : ∀ u : World, (sizeOf (Tryd.prog.elem 26)).run Tryd.prog u = .ok 1 u := by
    intro u
    rw [show Tryd.prog.elem 26 = 5 by kernel_rfl]
    obtain ⟨i0, hi, hz0, hz1, hz2⟩ := info_parts Tryd.info5
    simp [sizeOf, typeInfo, hi, hz1]
  refine ⟨if n = cap then .slice (some ⟨pb, off, none⟩) (len - n) (cap - n) else .slice (some ⟨pb, off + n, none⟩) (len - n) (cap - n), fun u => ?_, ?_, ?_, ?_⟩
  · rw [run_slice_l u 26 (some ⟨pb, off, none⟩) len cap ht .i64 n (by omega) (by omega), hs]
    simp only [Result.andThen, sliced, Int.toNat_natCast, Nat.mul_one, Option.map_some, Addr.add_mid]
    by_cases h : n = cap
    · rw [if_pos h, if_pos h.symm]
    · rw [if_neg h, if_neg (fun e => h e.symm)]
  · split <;> rfl
  · split <;> rfl
  · intro w r hrl hb hcm hcell
    by_cases h : n = cap
    · rw [if_pos h, List.drop_eq_nil_of_le (by omega), show len - n = 0 by omega]
      exact ⟨by intro x hx; simp at hx, rdv_none w _ _ (by omega)⟩
    · rw [if_neg h]
      have := Rd.part hb hcell n (len - n) (by omega) (cap - n) (by omega) (by omega)
      rwa [List.take_of_length_le (by rw [List.length_drop]; omega)] at this
set_option maxRecDepth 10000 in
set_option maxHeartbeats 1000000 in
theorem add_any (w : World) (b : Nat) (l : List Int) (pv : Value) (x : List Int) (hh : Hs w b l) (hp : Rd w pv x) (hap : 0 < x.length → ∀ k, pv.ownBlock = some k → k ≠ b) (hb0 : b ≠ 0) (ht : Tab w) (hlen : l.length + x.length < 1152921504606846976) :
    Calls Tryd.prog 78 #[.pointer (some ⟨b, 0, none⟩), pv] w fun e w' => e = .returned (.tuple #[]) ∧ Hs w' b (l ++ x) ∧ w.grownBy w' (some b) := by
  go_enter Tryd.func78, Tryd.ntmps78
  go_wp2_with fail
  go_loopw [1] (fun v wr => ∃ (d r : List Int), d ++ r = l ++ x ∧ Hs wr b d ∧ Rd wr v r ∧ (0 < r.length → ∀ k, v.ownBlock = some k → k ≠ b) ∧ w.grownBy wr (some b)) (fun v _ => slen v)
  case atStart => exact ⟨l, x, rfl, hh, hp, hap, grown_refl _ _⟩
  case round =>
    obtain ⟨d, r, hdr, hd, hr, hap', hg⟩ := hrel
    have HD := (show Hid (d ++ r = l ++ x) from hdr)
    have hdl : d.length + r.length < 1152921504606846976 := by
      have h := congrArg List.length hdr
      simp only [List.length_append] at h
      omega
    have htr : Tab wr := ht.grown hg (by simpa using hb0)
    clear hdr hap hh hp ht hlen
    have hbyt := hr.1
    by_cases hr0 : 0 < r.length
    · obtain ⟨pb, off, cap, rfl, hc1, hc2, hpb, hcell⟩ := hr.at hr0
      have hpbb : pb ≠ b := hap' hr0 pb rfl
      obtain ⟨rest, hre, hro⟩ := hd
      have hrl := hre.1
      obtain ⟨f, hf⟩ : ∃ f, f = d.length % 64 := ⟨_, rfl⟩
      obtain ⟨n, hn⟩ : ∃ n, n = Nat.min r.length (64 - f) := ⟨_, rfl⟩
      obtain ⟨y, hy⟩ : ∃ y, y = r.take n := ⟨_, rfl⟩
      have hn1 : n ≤ r.length := hn ▸ Nat.min_le_left _ _
      have hn2 : n ≤ 64 - f := hn ▸ Nat.min_le_right _ _
      have hf1 : f < 64 := by omega
      have hn0 : 0 < n := by rw [hn]; exact Nat.lt_min.2 ⟨hr0, by omega⟩
      have hyl : y.length = n := by rw [hy, List.length_take]; omega
      have hyb : Byt y := hy ▸ byt_take hbyt n
      have hsrc : ∀ (j : Nat) (v : Value), (bc y)[j]? = some v → wr.cell? ((⟨pb, off, none⟩ : Addr).add j) = some v := by
        intro j v hj
        have hjl : j < y.length := by
          have := (List.getElem?_eq_some_iff.1 hj).1
          rwa [bc_len] at this
        rw [bc_getD y j hjl] at hj
        rw [Addr.add_mid, hcell j (by omega), ← hj, hy]
        simp [List.getD, show j < n by omega]
      have hc72 : wr.cell? ⟨b, 72, none⟩ = some (.int .u64 (d.length : Int)) := hro.cell (hrow_at72 _ _ hrl)
      have hsl : ∀ u : World, (Instr.sliceAt 120 (.pointer (some ⟨b, 8, none⟩)) (some (.int .i64 (f : Int))) none none).run Tryd.prog u = .ok (.slice (some ⟨b, 8 + f, none⟩) (64 - f) (64 - f)) u := run_sl_l b 8 f hf1
      have HF := (show Hid (f = d.length % 64) from hf)
      have HN := (show Hid (n = Nat.min r.length (64 - f)) from hn)
      have HY := (show Hid (y = r.take n) from hy)
      have HS := (show Hid (∀ (j : Nat) (v : Value), (bc y)[j]? = some v → wr.cell? ((⟨pb, off, none⟩ : Addr).add j) = some v) from hsrc)
      have HC := (show Hid (∀ j, j < r.length → wr.cell? ⟨pb, off + j, none⟩ = some (.int .u8 (r.getD j 0))) from hcell)
      have HYL := (show Hid (y.length = n) from hyl)
      have HRL := (show Hid (rest.length = 64) from hrl)
      have HA1 := (show Hid ((bc y).length = Nat.min r.length (64 - f)) by show (bc y).length = _; rw [bc_len, hyl]; exact hn)
      have hA2 : 8 + f + (bc y).length ≤ (hrow (blks d (d.length / 64)) rest (d.length : Int)).length := by rw [bc_len, hyl, hrow_len _ _ hrl]; omega
      have HA3 := (show Hid ((bc y).length = n) by show (bc y).length = _; rw [bc_len, hyl])
      have hd60 : d.length < 1152921504606846976 := by omega
      clear hf hn hy hsrc hcell hap' hr hyl hrl
      go_wp2_with fail
      go_region_held3 (fun _ => True) (trivial)
        (first
          | (go_at_call 82; refine (filled_any wr.drew b d.length f hc72 HF.out hd60).mono ?_; rintro e w' ⟨rfl, rfl⟩)
          | (refine step_copy_to (by rfl) _ _ _ _ (by rfl) 5 Tryd.underlying26 Tryd.siz5 (some ⟨b, 8 + f, none⟩) (some ⟨pb, off, none⟩) (64 - f) (64 - f) r.length cap (by rfl) (by rfl) b (8 + f) _ 122 hro (bc y) HA1.out (fun _ => ⟨rfl, _, rfl, HS.out⟩) hA2 (bc_one _) n HA3.out ?_; intro w2 hr2 hg2))
      have hr2' : Row w2 b 122 (hrow (blks d (d.length / 64)) (splice rest f y) (d.length : Int)) := by
        have := hr2.out
        rwa [hrow_copy _ _ HRL.out (by rw [HYL.out]; omega)] at this
      have hspl : (splice rest f y).length = 64 := by rw [length_splice _ _ _ (by rw [HYL.out, HRL.out]; omega)]; exact HRL.out
      have HSPL := (show Hid ((splice rest f y).length = 64) from hspl)
      have hgr2 : wr.grownBy w2 (some b) := grown_drew hg2
      have hgw2 : w.grownBy w2 (some b) := grown_trans hg (grown_drew hg2) (.inl rfl)
      have hc72b : w2.cell? ⟨b, 72, none⟩ = some (.int .u64 (d.length : Int)) := hr2'.cell (hrow_at72 _ _ hspl)
      have hj72 : 72 < (hrow (blks d (d.length / 64)) (splice rest f y) (d.length : Int)).length := by rw [hrow_len _ _ hspl]; decide
      obtain ⟨V, hcut, hVb, hVl, hVr⟩ := run_cut pb off r.length cap n hn1 hc1
      have HVB := (show Hid (V.ownBlock = some pb) from hVb)
      have HVL := (show Hid (slen V = r.length - n) from hVl)
      have HVR := (show Hid (∀ (w : World), (∀ j, j < r.length → w.cell? ⟨pb, off + j, none⟩ = some (.int .u8 (r.getD j 0))) → Rd w V (r.drop n)) from fun w h => hVr w r rfl hbyt hc2 h)
      clear hg hg2 hr2 hc72 hsl HS HN HA1 HA3 hA2 hVb hVl hVr hspl hro
      by_cases hfull : f + n = 64
      · go_wp2_with (refine wl_set (by rfl) 95 _ _ (by rfl) b 72 (.int .u64 ((d.length : Int) + (n : Int))) (by rfl) (by rfl) 122 _ hr2' hj72 Tryd.siz41 (by rfl) ?_; intro w3 hr3 hg3)
        have hr3' : Row w3 b 122 (hrow (blks d (d.length / 64)) (splice rest f y) ((d.length + n : Nat) : Int)) := by
          have := hr3.out
          rwa [hrow_size _ _ _ HSPL.out, ← Int.natCast_add] at this
        have hgr3 := grown_trans hgr2 hg3 (.inl rfl)
        have hgw3 := grown_trans hgw2 hg3 (.inl rfl)
        have ht3 := htr.grown hgr3 (by simpa using hb0)
        clear hr3 hg3 hgr2 hgw2 hr2' hc72b hj72
        refine (filled_any _ b (d.length + n) 0 (hr3'.cell (hrow_at72 _ _ HSPL.out)) (by have := HF.out; omega) (by omega)).mono ?_
        rintro e w3' ⟨rfl, rfl⟩
        go_wp2_with fail
        have hq : Byt (splice rest f y) := byt_splice hre.2.1 hyb f
        have hlt3 := hr3'.lt
        go_region_held3 (fun _ => True) (trivial)
          ((go_at_call 83; refine (block_any w3'.drew b 122 (blks d (d.length / 64)) (bc (splice rest f y) ++ [Value.int IntKind.u64 ((d.length + n : Nat) : Int)]) hr3'.drew ht3 b 8 (splice rest f y) HSPL.out hq (hr3'.bts HSPL.out) hlt3).mono ?_; rintro e w4 ⟨rfl, hr4, hg4⟩))
        have hgr4 := grown_trans hgr3 (grown_drew hg4) (.inl rfl)
        have hgw4 := grown_trans hgw3 (grown_drew hg4) (.inl rfl)
        have hx := rest_full (x := y) hre hyb (by rw [HYL.out, ← HF.out]; exact hfull)
        rw [← HF.out] at hx
        have HH := (show Hid (Hs w4 b (d ++ y)) from ⟨splice rest f y, hx.1, by
          rw [hx.2, List.length_append, HYL.out]
          exact hr4⟩)
        have HR := (show Hid (Rd w4 V (r.drop n)) from HVR.out w4 fun j hj => (cell_grown hgr4 hpb hpbb _).trans (HC.out j hj))
        clear hr3' hgr3 hgw3 ht3 hr4 hg4 hgr4 hx hq htr
        go_wp2_with fail
        go_roundw
        case rel =>
          refine ⟨d ++ y, r.drop n, ?_, HH, HR, fun _ k hk => ?_, hgw4⟩
          · rw [List.append_assoc, HY.out, List.take_append_drop]
            exact HD.out
          · rw [HVB.out] at hk
            injection hk with hk
            omega
        case measure =>
          show slen V < r.length
          rw [HVL.out]
          omega
      · go_wp2_with (refine wl_set (by rfl) 95 _ _ (by rfl) b 72 (.int .u64 ((d.length : Int) + (n : Int))) (by rfl) (by rfl) 122 _ hr2' hj72 Tryd.siz41 (by rfl) ?_; intro w3 hr3 hg3)
        have hr3' : Row w3 b 122 (hrow (blks d (d.length / 64)) (splice rest f y) ((d.length + n : Nat) : Int)) := by
          have := hr3.out
          rwa [hrow_size _ _ _ HSPL.out, ← Int.natCast_add] at this
        have hgr3 := grown_trans hgr2 hg3 (.inl rfl)
        have hgw3 := grown_trans hgw2 hg3 (.inl rfl)
        have ht3 := htr.grown hgr3 (by simpa using hb0)
        clear hr3 hg3 hgr2 hgw2 hr2' hc72b hj72
        have hfn : 0 < f + n := by omega
        have hne : ((f + n : Nat) : Int) ≠ 0 := by omega
        have hne' : decide (((f + n : Nat) : Int) = 0) = false := by simpa using hne
        refine (filled_any _ b (d.length + n) (f + n) (hr3'.cell (hrow_at72 _ _ HSPL.out)) (by have := HF.out; omega) (by omega)).mono ?_
        rintro e w3' ⟨rfl, rfl⟩
        have hx := rest_more (x := y) hre hyb (by rw [HYL.out, ← HF.out]; omega)
        rw [← HF.out] at hx
        have HH := (show Hid (Hs _ b (d ++ y)) from ⟨splice rest f y, hx.1, by
          rw [hx.2, List.length_append, HYL.out]
          exact hr3'⟩)
        have HR := (show Hid (Rd _ V (r.drop n)) from HVR.out _ fun j hj => (cell_grown hgr3 hpb hpbb _).trans (HC.out j hj))
        clear hr3' hgr3 ht3 hx htr
        go_wp2_with fail
        go_roundw
        case rel =>
          refine ⟨d ++ y, r.drop n, ?_, HH, HR, fun _ k hk => ?_, hgw3⟩
          · rw [List.append_assoc, HY.out, List.take_append_drop]
            exact HD.out
          · rw [HVB.out] at hk
            injection hk with hk
            omega
        case measure =>
          show slen V < r.length
          rw [HVL.out]
          omega
    · have hr' : r = [] := List.eq_nil_of_length_eq_zero (by omega)
      subst hr'
      obtain ⟨ao, cap, rfl, hcm⟩ := hr.empty rfl
      have hdd : Hs wr b (l ++ x) := by rw [← HD.out, List.append_nil]; exact hd
      go_wp2_with fail
      go_end0
      exact ⟨rfl, hdd, hg⟩
end
end Go.Proofs.YtgpkngiakhdmhaaDoor
