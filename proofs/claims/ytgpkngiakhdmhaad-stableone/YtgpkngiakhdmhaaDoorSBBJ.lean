/- Strings as bytes; the small functions of package key, and of the document's own answer; bytes.Equal. -/
import Derived.Test.YtgpkngiakhdmhaaDoorSBBB
import Derived.Test.YtgpkngiakhdmhaaDoorSBAH
import Derived.Lib.SlBytesConst
import Derived.Test.YtgpkngiakhdmhaaDoorSBAM
import Derived.Lib.ConvBytes
import Derived.Laws.AppendOwn
namespace Go.Proofs.YtgpkngiakhdmhaaDoor
section
open Go.RowKit Oct Sha
theorem Tryd.siz43 : (Tryd.prog.info? 122).map (·.size) = some 73 := by kernel_rfl
def hzero : List Value := hrow ⟨0, 0, 0, 0, 0, 0, 0, 0⟩ (List.replicate 64 0) 0
theorem Tryd.zer43 : (Tryd.prog.info? 122).map (·.zero) = some (some (.agg hzero.toArray)) := by kernel_rfl
theorem zero43 (u : World) : (zeroValue 122).run Tryd.prog u = .ok (.agg hzero.toArray) u := by
  have h := Tryd.zer43
  cases hq : Tryd.prog.info? 122 with
  | none => simp [hq] at h
  | some i =>
    simp only [hq, Option.map_some, Option.some.injEq] at h
    simp [zeroValue, typeInfo, hq, h]
theorem hrow_one (s : St) (rest : List Int) (n : Int) : ∀ v ∈ hrow s rest n, v.oneCell' = true := by
  intro v hv
  rcases List.mem_append.1 hv with h | h
  · exact wv_one _ v h
  · rcases List.mem_append.1 h with h | h
    · exact bc_one _ v h
    · rw [List.mem_singleton.1 h]; rfl
theorem run_mk32 (u : World) : (Instr.makeSlice 26 (.int .i64 0) (.int .i64 32)).run Tryd.prog u =
    .ok (.slice (some ⟨u.heap.size, 0, none⟩) 0 32) (u.alloc (.cells (madeCells #[.int .u8 0] 32) 5)) := by
  obtain ⟨i0, hi, hz0, hz1, hz2⟩ := info_parts Tryd.info5
  have h := run_make (P := Tryd.prog) u 26 5 i0 (.int .u8 0) Tryd.underlying26 hi hz0 .i64 .i64 0 32 (by omega) (by omega) (by rw [hz2]; omega) (by omega)
  simpa [hz1, Value.cells] using h
theorem own_made (w : World) : Own (w.alloc (.cells (madeCells #[.int .u8 0] 32) 5)) 5 (.slice (some ⟨w.heap.size, 0, none⟩) 0 32) (bc []) := by
  refine ⟨rfl, .inr ⟨w.heap.size, 32, madeCells #[.int .u8 0] 32, rfl, Nat.zero_le _, heap_alloc_new w _, by decide, by decide, by rw [made_size], rfl⟩⟩
theorem rdv_four (w : World) (a b c d : Int) (e : TypeId) : Rdv (w.alloc (.cells #[.int .u8 a, .int .u8 b, .int .u8 c, .int .u8 d] e)) (.slice (some ⟨w.heap.size, 0, none⟩) 4 4) (bc [a, b, c, d]) :=
  Own.rdv (e := e) (World.ownsRow_lit (base := 0) (size := 1) w #[.int .u8 a, .int .u8 b, .int .u8 c, .int .u8 d] 4 (Nat.zero_le _) (by decide) rfl)
theorem be4_eq (x : BitVec 32) : be4 x = [wi x / 16777216 % 256, wi x / 65536 % 256, wi x / 256 % 256, wi x % 256] := by
  unfold be4
  rw [← shr_wi, ← shr_wi, ← shr_wi, show (2 : Int) ^ 24 = 16777216 from rfl, show (2 : Int) ^ 16 = 65536 from rfl, show (2 : Int) ^ 8 = 256 from rfl]
theorem out_take (s : St) (k : Nat) (hk : k < 8) : s.out.take (4 * (k + 1)) = s.out.take (4 * k) ++ be4 (s.ws.getD k 0) := by
  rcases (by omega : k = 0 ∨ k = 1 ∨ k = 2 ∨ k = 3 ∨ k = 4 ∨ k = 5 ∨ k = 6 ∨ k = 7) with rfl | rfl | rfl | rfl | rfl | rfl | rfl | rfl <;> rfl
theorem out_take_len (s : St) (k : Nat) (hk : k ≤ 8) : (s.out.take (4 * k)).length ≤ 32 := by rw [List.length_take, out_len]; omega
set_option maxHeartbeats 1000000 in
theorem hsum_any (w : World) (b : Nat) (l : List Int) (hh : Hs w b l) (ht : Tab w) (hlen : l.length < 1152921504606846976) :
    Calls Tryd.prog 72 #[.pointer (some ⟨b, 0, none⟩)] w fun e w' => ∃ v, e = .returned v ∧ Own w' 5 v (bc (shaL l)) ∧ Fr w.heap.size v ∧ Below w.heap.size w w' := by
  obtain ⟨rest, hre, hro⟩ := hh
  have hln : (hrow (blks l (l.length / 64)) rest (l.length : Int)).length = 73 := hrow_len _ _ hre.1
  have hsz : (Tryd.prog.info? 122).map (·.size) = some (hrow (blks l (l.length / 64)) rest (l.length : Int)).length := by rw [hln]; exact Tryd.siz43
  have hone := hrow_one (blks l (l.length / 64)) rest (l.length : Int)
  obtain ⟨R, hR⟩ : ∃ R, R = hrow (blks l (l.length / 64)) rest (l.length : Int) := ⟨_, rfl⟩
  rw [← hR] at hro hln hsz hone
  have HR := (show Hid (R = hrow (blks l (l.length / 64)) rest (l.length : Int)) from hR)
  have HLN := (show Hid (R.length = 73) from hln)
  clear hR hln
  have hz43 := zero43
  obtain ⟨Z, hZ⟩ : ∃ Z, Z = hzero := ⟨_, rfl⟩
  have hZl : Z.length = R.length := by rw [hZ, HLN.out]; rfl
  rw [← hZ] at hz43
  clear hZ
  go_enter Tryd.func72, Tryd.ntmps72
  go_wp2_with (first
    | (refine wl_load (by rfl) 122 _ (by rfl) b (by rfl) _ R hro _ Tryd.underlying122 rfl hsz ?_)
    | (refine wl_store (by rfl) 122 _ _ (by rfl) w.heap.size R (by rfl) (by rfl) 122 Z (heap_alloc_new w _) hZl hsz hone ?_; intro w1 hr1 hg1))
  have hN0 : w.heap.size ≠ 0 := Nat.ne_of_gt ht.pos
  have hb1 : Below w.heap.size w w1 := (below_alloc w _).trans (grown_below hg1 (by simp) (fun k hk => by cases hk; exact Nat.le_refl _))
  have hs1 : Hs w1 w.heap.size l := ⟨rest, hre, HR.out ▸ hr1.out⟩
  have ht1 := ht.below hb1
  clear hg1 hr1 hro hsz hone hre HR HLN hz43 hZl ht
  refine (finish_any w1 w.heap.size l hs1 hN0 ht1 hlen).mono ?_
  rintro e w2 ⟨rfl, ⟨rest2, n2, hrl2, hro2⟩, hg2⟩
  have hb2 : Below w.heap.size w w2 := hb1.trans (grown_below hg2 hb1.size (fun k hk => by cases hk; exact Nat.le_refl _))
  obtain ⟨F, hF⟩ : ∃ F, F = blks (pad l) ((pad l).length / 64) := ⟨_, rfl⟩
  rw [← hF] at hro2
  have HF := (show Hid (F.out = shaL l) by rw [hF]; rfl)
  have hmk := run_mk32
  obtain ⟨O, hO⟩ : ∃ O, O = Obj.cells (madeCells #[.int .u8 0] 32) 5 := ⟨_, rfl⟩
  have how : Own (w2.alloc O) 5 (.slice (some ⟨w2.heap.size, 0, none⟩) 0 32) (bc []) := hO ▸ own_made w2
  rw [← hO] at hmk
  have hro3 := hro2.below (below_alloc w2 O)
  have c0 : (w2.alloc O).cell? ⟨w.heap.size, 0, none⟩ = some (.int .u32 (wi F.a)) := hro3.cell rfl
  have c1 : (w2.alloc O).cell? ⟨w.heap.size, 1, none⟩ = some (.int .u32 (wi F.b)) := hro3.cell rfl
  have c2 : (w2.alloc O).cell? ⟨w.heap.size, 2, none⟩ = some (.int .u32 (wi F.c)) := hro3.cell rfl
  have c3 : (w2.alloc O).cell? ⟨w.heap.size, 3, none⟩ = some (.int .u32 (wi F.d)) := hro3.cell rfl
  have c4 : (w2.alloc O).cell? ⟨w.heap.size, 4, none⟩ = some (.int .u32 (wi F.e)) := hro3.cell rfl
  have c5 : (w2.alloc O).cell? ⟨w.heap.size, 5, none⟩ = some (.int .u32 (wi F.f)) := hro3.cell rfl
  have c6 : (w2.alloc O).cell? ⟨w.heap.size, 6, none⟩ = some (.int .u32 (wi F.g)) := hro3.cell rfl
  have c7 : (w2.alloc O).cell? ⟨w.heap.size, 7, none⟩ = some (.int .u32 (wi F.h)) := hro3.cell rfl
  have hb3 := hb2.alloc (by exact hb2.size) O
  have hfr : Fr w.heap.size (.slice (some ⟨w2.heap.size, 0, none⟩) 0 32) := fr_at _ _ _ _ hb2.size
  clear hO hro3 hro2 hg2 hs1 ht1 hb1 hF hrl2 hN0 hlen hb2
  go_wp2_with fail
  go_loopw [4, 14] (fun o i wr => ∃ k : Nat, k ≤ 8 ∧ i = .int .i64 k ∧ Own wr 5 o (bc (F.out.take (4 * k))) ∧ Fr w.heap.size o ∧ Below w.heap.size w wr) (fun _ i _ => 8 - (intOf i).toNat)
  case atStart => exact ⟨0, by omega, rfl, how, hfr, hb3⟩
  case round =>
    obtain ⟨k, hk, rfl, hok, hfk, hbk⟩ := hrel
    clear how hfr hb3 c0 c1 c2 c3 c4 c5 c6 c7 hmk
    by_cases hk8 : k < 8
    · have hix : ∀ u : World, (Instr.index 118 (.agg #[.int .u32 (wi F.a), .int .u32 (wi F.b), .int .u32 (wi F.c), .int .u32 (wi F.d), .int .u32 (wi F.e), .int .u32 (wi F.f), .int .u32 (wi F.g), .int .u32 (wi F.h)]) (.int .i64 (k : Int))).run Tryd.prog u = .ok (.int .u32 (wi (F.ws.getD k 0))) u := run_ixv Tryd.und38 Tryd.info34 Tryd.underlying93 F.ws k hk8 rfl
      obtain ⟨x, hx⟩ : ∃ x, x = F.ws.getD k 0 := ⟨_, rfl⟩
      rw [← hx] at hix
      have HX := (show Hid (F.out.take (4 * (k + 1)) = F.out.take (4 * k) ++ [wi x / 16777216 % 256, wi x / 65536 % 256, wi x / 256 % 256, wi x % 256]) by rw [hx, ← be4_eq]; exact out_take F k hk8)
      have HTL := (show Hid ((F.out.take (4 * k)).length ≤ 32) from out_take_len F k hk)
      clear hx
      go_wp2_with (at_builtin; refine app_bytes rfl _ _ rfl _ (F.out.take (4 * k)) rfl (World.ownsRow.alloc hok _) _ [_, _, _, _] rfl (rdv_four wr _ _ _ _ _) (by have := HTL.out; simp only [List.length_cons, List.length_nil]; omega) ?_; intro v1 w3 happ1)
      have hp := happ1.pre (below_alloc wr _)
      have HO := (show Hid (Own w3 5 v1 (bc (F.out.take (4 * (k + 1))))) by rw [HX.out]; exact hp.own)
      have hf3 := hp.fr hfk hbk.size
      have hb3 := hbk.trans (hp.below hfk hbk.size)
      clear hp happ1 hok hfk hbk HX HTL
      go_roundw
      case rel => exact ⟨k + 1, by omega, by go_num, HO, hf3, hb3⟩
      case measure => simp [intOf]; omega
    · have hok' : Own wr 5 u4 (bc (shaL l)) := by
        rwa [show k = 8 by omega, List.take_of_length_le (by rw [out_len]; decide), HF.out] at hok
      go_wp2_with fail
      go_ret
      exact ⟨_, rfl, hok', hfk, hbk⟩
theorem rdv_els (w : World) (xs : List Value) (e : TypeId) (h : 0 < xs.length) (hm : xs.length ≤ 1000) : Rdv (w.alloc (.cells xs.toArray e)) (.slice (some ⟨w.heap.size, 0, none⟩) xs.length xs.length) xs := by
  refine ⟨some ⟨w.heap.size, 0, none⟩, xs.length, rfl, Nat.le_refl _, by unfold maxLen; omega, fun e => (by cases e), fun a ha j u hu => ?_⟩
  cases ha
  rw [Addr.add_mid]
  exact (Row.new w e xs).cell (by rw [Nat.zero_add]; exact hu)
theorem hs_ne {w : World} {v : Value} {l : List Int} {b : Nat} (h : Rd w v l) (hl : 0 < l.length) (hb : w.heap.size ≤ b) : ∀ k, v.ownBlock = some k → k ≠ b := fun k hk => by
  have := h.lt (fun e => by rw [e] at hl; simp at hl) k hk
  omega
set_option maxHeartbeats 1000000 in
theorem sum_any (w : World) (v : Value) (l : List Int) (hr : Rd w v l) (ht : Tab w) (hlen : l.length < 1152921504606846976) :
    Calls Tryd.prog 59 #[v] w fun e w' => ∃ r, e = .returned r ∧ Own w' 5 r (bc (shaL l)) ∧ Fr w.heap.size r ∧ Below w.heap.size w w' := by
  have le := Nat.le_refl w.heap.size
  obtain ⟨ao, cap, rfl, hcap⟩ := hr.form
  go_enter Tryd.func59, Tryd.ntmps59
  go_wp2_with fail
  refine (new_any w).mono ?_
  rintro e w1 ⟨b, rfl, hb, hs1, hb1⟩
  have hr1 := hr.below hb1
  have ht1 := ht.below hb1
  have hpos := ht.pos
  go_wp2_with fail
  have hbn : b < w1.heap.size := hs1.lt
  have hal := below_alloc w1 (Obj.cells #[Value.slice ao l.length cap] 26)
  refine (write_any _ b [] _ [Value.slice ao l.length cap] [l] (hs1.below hal) (rdv_els w1 [Value.slice ao l.length cap] 26 (by simp) (by simp)) ⟨hr1.below hal, trivial⟩ (fun k hk => by simp [Value.ownBlock] at hk; omega) ?_ (by omega) (ht1.below hal) (by simpa using hlen)).mono ?_
  · intro i u x hi hx hx0 k hk
    cases i with
    | zero => simp at hi hx; subst hi hx; exact hs_ne hr hx0 hb k hk
    | succ i => simp at hi
  rintro e w2 ⟨rfl, hs2, hg2⟩
  rw [List.nil_append, List.flatten_singleton] at hs2
  have hb2 : Below w.heap.size w w2 := (below_and hb1 le hal).trans (grown_below hg2 (by simp; exact Nat.le_succ_of_le hb1.size) (fun k hk => by cases hk; exact hb))
  have ht2 := ht.below hb2
  clear hs1 hr1 hg2 hr hal hb1 ht1 ht
  go_wp2_with fail
  refine (hsum_any w2 b l hs2 ht2 hlen).mono ?_
  rintro e w3 ⟨r, rfl, hown, hfr, hb3⟩
  go_wp2_with fail
  go_ret
  exact ⟨_, rfl, hown, hfr.mono hb2.size, below_and hb2 le hb3⟩
end
section
open Go.RowKit Oct Sha
theorem rd_lit (w : World) (l : List Int) (e : TypeId) (fr : Nat × Nat) (hb : Byt l) (h : 0 < l.length) (hm : l.length ≤ 1000) : Rd (w.alloc (.cells (bc l).toArray e fr)) (.slice (some ⟨w.heap.size, 0, none⟩) l.length l.length) l := by
  refine ⟨hb, some ⟨w.heap.size, 0, none⟩, l.length, by rw [bc_len], by rw [bc_len]; exact Nat.le_refl _, by unfold maxLen; omega, fun e => (by cases e), fun a ha j u hu => ?_⟩
  cases ha
  rw [Addr.add_mid, cell_of_row _ _ _ (bc l).toArray e fr (heap_alloc_new w _), Nat.zero_add]
  simpa using hu
theorem byt_of {l : List Int} (h : l.all (fun x => decide (0 ≤ x) && decide (x ≤ 255)) = true) : Byt l := fun x hx => by
  have := List.all_eq_true.1 h x hx
  simpa using this
theorem run_cvt (u : World) (C : Array Value) (n c : Nat) : (convert 26 26 (.slice (some ⟨u.heap.size, 0, none⟩) n c)).run Tryd.prog (u.alloc (.cells C 5)) = .ok (.slice (some ⟨u.heap.size, 0, none⟩) n c) (u.alloc (.cells C 5 (C.size, C.size + 1))) :=
  Lib.run_convert_bytes_const u 26 5 C n c Tryd.underlying26 Tryd.underlying5
theorem shaL_byt (l : List Int) : Byt (shaL l) := out_byt _
end
section
open Go.RowKit Oct Sha
/-- A string's bytes. -/
def sL (s : ByteArray) : List Int := s.data.toList.map fun b => (b.toNat : Int)
theorem sL_len (s : ByteArray) : (sL s).length = s.size := by rw [sL, List.length_map]; rfl
theorem sL_byt (s : ByteArray) : Byt (sL s) := fun x hx => by
  obtain ⟨b, _, rfl⟩ := List.mem_map.1 hx
  have := b.toNat_lt
  omega
theorem rd_str (w : World) (s : ByteArray) (hs : s.size ≤ maxLen) : Rd (Lib.bytesWorld w 5 s) (.slice (some ⟨w.heap.size, 0, none⟩) s.size (grownCap w s.size 0 5)) (sL s) := by
  refine ⟨sL_byt s, some ⟨w.heap.size, 0, none⟩, grownCap w s.size 0 5, by rw [bc_len, sL_len], by rw [bc_len, sL_len]; exact grownCap_ge _ _ _ _, grownCap_le_maxLen _ _ _ _ hs, fun e => (by cases e), fun a ha j u hu => ?_⟩
  cases ha
  have hj : j < (sL s).length := by
    rcases Nat.lt_or_ge j (sL s).length with h | h
    · exact h
    · rw [List.getElem?_eq_none (by rw [bc_len]; exact h)] at hu; cases hu
  rw [bc_getD _ _ hj] at hu
  rw [sL_len] at hj
  rw [Addr.add_mid, Nat.zero_add, Lib.bytesWorld_cell w _ s j hj, ← hu]
  have hj' : j < s.data.toList.length := by simpa using hj
  simp [sL, List.getD, List.getElem?_map, List.getElem?_eq_getElem hj']
theorem below_str (w : World) (e : TypeId) (s : ByteArray) : Below w.heap.size w (Lib.bytesWorld w e s) :=
  ⟨rfl, rfl, rfl, by rw [Lib.bytesWorld_size]; omega, fun k hk => Lib.bytesWorld_at_old w e s k hk⟩
/-- '[]byte(s)'. -/
theorem wl_str {w : World} {ops : Array Oper} {rest : List Oper} {o : Oper} {a : Act} {Q : Exit → Act → World → Prop} (hgd : Region.wanted o (yielded ops a.tmps) = true) (x : Operand)
    (ho : o.op = .convert 9 26 x) (s : ByteArray) (hx : a.eval x = .string s) (hs : s.size ≤ maxLen)
    (h : ∀ v w', Rd w' v (sL s) → Fr w.heap.size v → Below w.heap.size w w' → wpList Tryd.prog ops Q rest (a.put o.dst v) w') : wpList Tryd.prog ops Q (o :: rest) a w := by
  refine wpList_wanted hgd fun K hK => ?_
  unfold Oper.wp
  simp [execOp, ho, hx, Lib.run_convert_string_bytes w 9 26 5 s Tryd.underlying9 Tryd.underlying26 Tryd.underlying5, Result.andThen]
  exact hK _ _ (h _ _ (rd_str w s hs) (fr_at _ _ _ _ (Nat.le_refl _)) (below_str w _ s))
theorem isKey_yes (w : World) (k : Int) (h0 : 0 ≤ k) (h1 : k ≤ 127) : Calls Tryd.prog 44 #[.int .i64 k] w fun e w' => e = .returned (.bool true) ∧ w' = w := by
  go_enter Tryd.func44, Tryd.ntmps44
  go_wp2_with fail
  go_ret
  exact ⟨rfl, rfl⟩
theorem isKey_no (w : World) (k : Int) (h : k < 0 ∨ 127 < k) : Calls Tryd.prog 44 #[.int .i64 k] w fun e w' => e = .returned (.bool false) ∧ w' = w := by
  rcases h with h | h
  · have h0 : decide (0 ≤ k) = false := by simpa using h
    go_enter Tryd.func44, Tryd.ntmps44
    go_wp2_with fail
    go_ret
    exact ⟨rfl, rfl⟩
  · have h1 : decide (k ≤ 127) = false := by simpa using h
    go_enter Tryd.func44, Tryd.ntmps44
    go_wp2_with fail
    go_ret
    exact ⟨rfl, rfl⟩
def repL (i : Int) : Int := if 0 ≤ i ∧ i ≤ 15 then i else -1
theorem replica_any (w : World) (i : Int) : Calls Tryd.prog 36 #[.int .i64 i] w fun e w' => e = .returned (.int .i64 (repL i)) ∧ w' = w := by
  by_cases h0 : i < 0
  · rw [repL, if_neg (by omega)]
    go_enter Tryd.func36, Tryd.ntmps36
    go_wp2_with fail
    go_ret
    exact ⟨rfl, rfl⟩
  by_cases h1 : 15 < i
  · rw [repL, if_neg (by omega)]
    go_enter Tryd.func36, Tryd.ntmps36
    go_wp2_with fail
    go_ret
    exact ⟨rfl, rfl⟩
  · rw [repL, if_pos (by omega)]
    go_enter Tryd.func36, Tryd.ntmps36
    go_wp2_with fail
    go_ret
    exact ⟨rfl, rfl⟩
/-- bytes.Equal. -/
theorem equal_any (w : World) (u v : Value) (a b : List Int) (ha : Rd w u a) (hb : Rd w v b) :
    Calls Tryd.prog 45 #[u, v] w fun e w' => e = .returned (.bool (decide (a = b))) ∧ w' = w := by
  have h1 := run_str ha
  have h2 := run_str hb
  have h3 := str_eq ha.1 hb.1
  clear ha hb
  rw [← h3]
  clear h3
  go_enter Tryd.func45, Tryd.ntmps45
  go_wp2_with fail
  go_ret
  exact ⟨rfl, rfl⟩
end
end Go.Proofs.YtgpkngiakhdmhaaDoor
