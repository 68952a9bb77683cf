/- Sizes of a message out of the bound on what comes in. -/
import Derived.Test.YtgjepofinpmcpaaGreatDoorMAZ
import Derived.Test.YtgjepofinpmcpaaGreatDoorMAJ
import Derived.Lib.SlBytesConst
import Derived.Test.YtgjepofinpmcpaaGreatDoorMAE
import Derived.Lib.ConvBytes
import Derived.Laws.AppendOwn
import Derived.Test.YtgjepofinpmcpaaGreatDoorMAO
import Derived.Deep.Cut
import Derived.Test.YtgjepofinpmcpaaGreatDoorMAT
import Derived.Test.YtgjepofinpmcpaaGreatDoorMAQ
import Derived.Test.YtgjepofinpmcpaaGreatDoorMAA
import Derived.Test.YtgjepofinpmcpaaGreatDoorMAC
import Derived.WalkSpells
import Derived.WalkLawsBesides
import Derived.KernelRfl
import Derived.Test.YtgjepofinpmcpaaGreatDoorMAK
import Derived.Test.YtgjepofinpmcpaaGreatDoorMBE
set_option linter.unusedSimpArgs false
set_option linter.unusedVariables false
namespace Go.Proofs.YtgjepofinpmcpaaGreatDoor
section
open Go.RowKit Oct Sha
theorem Tryz.siz43 : (Tryz.prog.info? 189).map (·.size) = some 73 := by kernel_rfl
def hzero : List Value := zB5 ⟨0, 0, 0, 0, 0, 0, 0, 0⟩ (List.replicate 64 0) 0
theorem Tryz.zer43 : (Tryz.prog.info? 189).map (·.zero) = some (some (.agg hzero.toArray)) := by kernel_rfl
theorem zero43 (u : World) : (zeroValue 189).run Tryz.prog u = .ok (.agg hzero.toArray) u := by
  have h := Tryz.zer43
  cases hq : Tryz.prog.info? 189 with
  | none => simp [hq] at h
  | some i =>
    simp only [hq, Option.map_some, Option.some.injEq] at h
    simp [zeroValue, typeInfo, hq, h]
theorem hrow_one (s : St) (rest : List Int) (n : Int) : ∀ v ∈ zB5 s rest n, v.oneCell' = true := by
  intro v hv
  rcases List.mem_append.1 hv with h | h
  · exact zFd _ v h
  · rcases List.mem_append.1 h with h | h
    · exact zJi _ v h
    · rw [List.mem_singleton.1 h]; rfl
theorem run_mk32 (u : World) : (Instr.makeSlice 23 (.int .i64 0) (.int .i64 32)).run Tryz.prog u =
    .ok (.slice (some ⟨u.heap.size, 0, none⟩) 0 32) (u.alloc (.cells (madeCells #[.int .u8 0] 32) 5)) := by
  obtain ⟨i0, hi, hz0, hz1, hz2⟩ := info_parts Tryz.info5
  have h := run_make (P := Tryz.prog) u 23 5 i0 (.int .u8 0) Tryz.underlying23 hi hz0 .i64 .i64 0 32 (by omega) (by omega) (by rw [hz2]; omega) (by omega)
  simpa [hz1, Value.cells] using h
theorem own_made (w : World) : Own (w.alloc (.cells (madeCells #[.int .u8 0] 32) 5)) 5 (.slice (some ⟨w.heap.size, 0, none⟩) 0 32) (bc []) := by
  refine ⟨rfl, .inr ⟨w.heap.size, 32, madeCells #[.int .u8 0] 32, rfl, Nat.zero_le _, heap_alloc_new w _, by decide, by decide, by rw [zIv], rfl⟩⟩
theorem rdv_four (w : World) (a b c d : Int) (e : TypeId) : Rdv (w.alloc (.cells #[.int .u8 a, .int .u8 b, .int .u8 c, .int .u8 d] e)) (.slice (some ⟨w.heap.size, 0, none⟩) 4 4) (bc [a, b, c, d]) :=
  Own.rdv (e := e) (World.ownsRow_lit (base := 0) (size := 1) w #[.int .u8 a, .int .u8 b, .int .u8 c, .int .u8 d] 4 (Nat.zero_le _) (by decide) rfl)
theorem be4_eq (x : BitVec 32) : be4 x = [wi x / 16777216 % 256, wi x / 65536 % 256, wi x / 256 % 256, wi x % 256] := by
  unfold be4
  rw [← zGf, ← zGf, ← zGf, show (2 : Int) ^ 24 = 16777216 from rfl, show (2 : Int) ^ 16 = 65536 from rfl, show (2 : Int) ^ 8 = 256 from rfl]
theorem zPn (s : St) (k : Nat) (hk : k < 8) : s.out.take (4 * (k + 1)) = s.out.take (4 * k) ++ be4 (s.ws.getD k 0) := by
  rcases (by omega : k = 0 ∨ k = 1 ∨ k = 2 ∨ k = 3 ∨ k = 4 ∨ k = 5 ∨ k = 6 ∨ k = 7) with rfl | rfl | rfl | rfl | rfl | rfl | rfl | rfl <;> rfl
theorem zH0 (s : St) (k : Nat) (hk : k ≤ 8) : (s.out.take (4 * k)).length ≤ 32 := by rw [List.length_take, zL0]; omega
set_option maxHeartbeats 1000000 in
theorem hsum_any (w : World) (b : Nat) (l : List Int) (hh : Hs w b l) (ht : Tab w) (hlen : l.length < 1152921504606846976) :
    Calls Tryz.prog 118 #[.pointer (some ⟨b, 0, none⟩)] w fun e w' => ∃ v, e = .returned v ∧ Own w' 5 v (bc (zNv l)) ∧ Fr w.heap.size v ∧ Below w.heap.size w w' := by
  obtain ⟨rest, hre, hro⟩ := hh
  have hln : (zB5 (zDk l (l.length / 64)) rest (l.length : Int)).length = 73 := zEo _ _ hre.1
  have hsz : (Tryz.prog.info? 189).map (·.size) = some (zB5 (zDk l (l.length / 64)) rest (l.length : Int)).length := by rw [hln]; exact Tryz.siz43
  have hone := hrow_one (zDk l (l.length / 64)) rest (l.length : Int)
  obtain ⟨R, hR⟩ : ∃ R, R = zB5 (zDk l (l.length / 64)) rest (l.length : Int) := ⟨_, rfl⟩
  rw [← hR] at hro hln hsz hone
  have HR := (show Hid (R = zB5 (zDk l (l.length / 64)) rest (l.length : Int)) from hR)
  have HLN := (show Hid (R.length = 73) from hln)
  clear hR hln
  have hz43 := zero43
  obtain ⟨Z, hZ⟩ : ∃ Z, Z = hzero := ⟨_, rfl⟩
  have hZl : Z.length = R.length := by rw [hZ, HLN.out]; rfl
  rw [← hZ] at hz43
  clear hZ
  go_enter Tryz.func118, Tryz.ntmps118
  go_wp2_with (first
    | (refine zAa (by rfl) 189 _ (by rfl) b (by rfl) _ R hro _ Tryz.underlying189 rfl hsz ?_)
    | (refine zA7 (by rfl) 189 _ _ (by rfl) w.heap.size R (by rfl) (by rfl) 189 Z (heap_alloc_new w _) hZl hsz hone ?_; intro w1 hr1 hg1))
  have hN0 : w.heap.size ≠ 1 := Nat.ne_of_gt ht.pos
  have hb1 : Below w.heap.size w w1 := (zA0 w _).trans (zA5 hg1 (by simp) (fun k hk => by cases hk; exact zN))
  have hs1 : Hs w1 w.heap.size l := ⟨rest, hre, HR.out ▸ hr1.out⟩
  have ht1 := ht.below hb1
  clear hg1 hr1 hro hsz hone hre HR HLN hz43 hZl ht
  refine (zRg w1 w.heap.size l hs1 hN0 ht1 hlen).mono ?_
  rintro e w2 ⟨rfl, ⟨rest2, n2, hrl2, hro2⟩, hg2⟩
  have hb2 : Below w.heap.size w w2 := hb1.trans (zA5 hg2 hb1.size (fun k hk => by cases hk; exact zN))
  obtain ⟨F, hF⟩ : ∃ F, F = zDk (pad l) ((pad l).length / 64) := ⟨_, rfl⟩
  rw [← hF] at hro2
  have HF := (show Hid (F.out = zNv l) by rw [hF]; rfl)
  have hmk := run_mk32
  obtain ⟨O, hO⟩ : ∃ O, O = Obj.cells (madeCells #[.int .u8 0] 32) 5 := ⟨_, rfl⟩
  have how : Own (w2.alloc O) 5 (.slice (some ⟨w2.heap.size, 0, none⟩) 0 32) (bc []) := hO ▸ own_made w2
  rw [← hO] at hmk
  have hro3 := hro2.below (zA0 w2 O)
  have c0 : (w2.alloc O).cell? ⟨w.heap.size, 0, none⟩ = some (.int .u32 (wi F.a)) := hro3.cell rfl
  have c1 : (w2.alloc O).cell? ⟨w.heap.size, 1, none⟩ = some (.int .u32 (wi F.b)) := hro3.cell rfl
  have c2 : (w2.alloc O).cell? ⟨w.heap.size, 2, none⟩ = some (.int .u32 (wi F.c)) := hro3.cell rfl
  have c3 : (w2.alloc O).cell? ⟨w.heap.size, 3, none⟩ = some (.int .u32 (wi F.d)) := hro3.cell rfl
  have c4 : (w2.alloc O).cell? ⟨w.heap.size, 4, none⟩ = some (.int .u32 (wi F.e)) := hro3.cell rfl
  have c5 : (w2.alloc O).cell? ⟨w.heap.size, 5, none⟩ = some (.int .u32 (wi F.f)) := hro3.cell rfl
  have c6 : (w2.alloc O).cell? ⟨w.heap.size, 6, none⟩ = some (.int .u32 (wi F.g)) := hro3.cell rfl
  have c7 : (w2.alloc O).cell? ⟨w.heap.size, 7, none⟩ = some (.int .u32 (wi F.h)) := hro3.cell rfl
  have hb3 := hb2.alloc (by exact hb2.size) O
  have hfr : Fr w.heap.size (.slice (some ⟨w2.heap.size, 0, none⟩) 0 32) := zBx _ _ _ _ hb2.size
  clear hO hro3 hro2 hg2 hs1 ht1 hb1 hF hrl2 hN0 hlen hb2
  go_wp2_with fail
  go_loopw [4, 14] (fun o i wr => ∃ k : Nat, k ≤ 8 ∧ i = .int .i64 k ∧ Own wr 5 o (bc (F.out.take (4 * k))) ∧ Fr w.heap.size o ∧ Below w.heap.size w wr) (fun _ i _ => 8 - (intOf i).toNat)
  case atStart => exact ⟨0, by omega, rfl, how, hfr, hb3⟩
  case round =>
    obtain ⟨k, hk, rfl, hok, hfk, hbk⟩ := hrel
    clear how hfr hb3 c0 c1 c2 c3 c4 c5 c6 c7 hmk
    by_cases hk8 : k < 8
    · have hix : ∀ u : World, (Instr.index 185 (.agg #[.int .u32 (wi F.a), .int .u32 (wi F.b), .int .u32 (wi F.c), .int .u32 (wi F.d), .int .u32 (wi F.e), .int .u32 (wi F.f), .int .u32 (wi F.g), .int .u32 (wi F.h)]) (.int .i64 (k : Int))).run Tryz.prog u = .ok (.int .u32 (wi (F.ws.getD k 0))) u := zL4 Tryz.und38 Tryz.info34 Tryz.underlying183 F.ws k hk8 rfl
      obtain ⟨x, hx⟩ : ∃ x, x = F.ws.getD k 0 := ⟨_, rfl⟩
      rw [← hx] at hix
      have HX := (show Hid (F.out.take (4 * (k + 1)) = F.out.take (4 * k) ++ [wi x / 16777216 % 256, wi x / 65536 % 256, wi x / 256 % 256, wi x % 256]) by rw [hx, ← be4_eq]; exact zPn F k hk8)
      have HTL := (show Hid ((F.out.take (4 * k)).length ≤ 32) from zH0 F k hk)
      clear hx
      go_wp2_with (at_builtin; refine zAx rfl _ _ rfl _ (F.out.take (4 * k)) rfl (World.ownsRow.alloc hok _) _ [_, _, _, _] rfl (rdv_four wr _ _ _ _ _) (by have := HTL.out; simp only [List.length_cons, List.length_nil]; omega) ?_; intro v1 w3 happ1)
      have hp := happ1.pre (zA0 wr _)
      have HO := (show Hid (Own w3 5 v1 (bc (F.out.take (4 * (k + 1))))) by rw [HX.out]; exact hp.own)
      have hf3 := hp.fr hfk hbk.size
      have hb3 := hbk.trans (hp.below hfk hbk.size)
      clear hp happ1 hok hfk hbk HX HTL
      go_roundw
      case rel => exact ⟨k + 1, by omega, by go_num, HO, hf3, hb3⟩
      case measure => simp [intOf]; omega
    · have hok' : Own wr 5 u4 (bc (zNv l)) := by
        rwa [show k = 8 by omega, List.take_of_length_le (by rw [zL0]; decide), HF.out] at hok
      go_wp2_with fail
      go_ret
      exact ⟨_, rfl, hok', hfk, hbk⟩
theorem zGq (w : World) (xs : List Value) (e : TypeId) (h : 0 < xs.length) (hm : xs.length ≤ 1000) : Rdv (w.alloc (.cells xs.toArray e)) (.slice (some ⟨w.heap.size, 0, none⟩) xs.length xs.length) xs := by
  refine ⟨some ⟨w.heap.size, 0, none⟩, xs.length, rfl, zN, by unfold maxLen; omega, fun e => (by cases e), fun a ha j u hu => ?_⟩
  cases ha
  rw [Addr.add_mid]
  exact (Row.new w e xs).cell (by rw [Nat.zero_add]; exact hu)
theorem hs_ne {w : World} {v : Value} {l : List Int} {b : Nat} (h : Rd w v l) (hl : 0 < l.length) (hb : w.heap.size ≤ b) : ∀ k, v.ownBlock = some k → k ≠ b := fun k hk => by
  have := h.lt (fun e => by rw [e] at hl; simp at hl) k hk
  omega
set_option maxHeartbeats 1000000 in
theorem sum_any (w : World) (v : Value) (l : List Int) (hr : Rd w v l) (ht : Tab w) (hlen : l.length < 1152921504606846976) :
    Calls Tryz.prog 76 #[v] w fun e w' => ∃ r, e = .returned r ∧ Own w' 5 r (bc (zNv l)) ∧ Fr w.heap.size r ∧ Below w.heap.size w w' := by
  have le := Nat.le_refl w.heap.size
  obtain ⟨ao, cap, rfl, hcap⟩ := hr.form
  go_enter Tryz.func76, Tryz.ntmps76
  go_wp2_with fail
  refine (new_any w).mono ?_
  rintro e w1 ⟨b, rfl, hb, hs1, hb1⟩
  have hr1 := hr.below hb1
  have ht1 := ht.below hb1
  have hpos := ht.pos
  go_wp2_with fail
  have hbn : b < w1.heap.size := hs1.lt
  have hal := zA0 w1 (Obj.cells #[Value.slice ao l.length cap] 23)
  refine (zUf _ b [] _ [Value.slice ao l.length cap] [l] (hs1.below hal) (zGq w1 [Value.slice ao l.length cap] 23 (by simp) (by simp)) ⟨hr1.below hal, trivial⟩ (fun k hk => by simp [Value.ownBlock] at hk; omega) ?_ (by omega) (ht1.below hal) (by simpa using hlen)).mono ?_
  · intro i u x hi hx hx0 k hk
    cases i with
    | zero => simp at hi hx; subst hi hx; exact hs_ne hr hx0 hb k hk
    | succ i => simp at hi
  rintro e w2 ⟨rfl, hs2, hg2⟩
  rw [List.nil_append, List.flatten_singleton] at hs2
  have hb2 : Below w.heap.size w w2 := (zA1 hb1 le hal).trans (zA5 hg2 (by simp; exact Nat.le_succ_of_le hb1.size) (fun k hk => by cases hk; exact hb))
  have ht2 := ht.below hb2
  clear hs1 hr1 hg2 hr hal hb1 ht1 ht
  go_wp2_with fail
  refine (hsum_any w2 b l hs2 ht2 hlen).mono ?_
  rintro e w3 ⟨r, rfl, hown, hfr, hb3⟩
  go_wp2_with fail
  go_ret
  exact ⟨_, rfl, hown, hfr.mono hb2.size, zA1 hb2 le hb3⟩
end
section
open Go.RowKit Oct Sha
theorem rd_lit (w : World) (l : List Int) (e : TypeId) (fr : Nat × Nat) (hb : Byt l) (h : 0 < l.length) (hm : l.length ≤ 1000) : Rd (w.alloc (.cells (bc l).toArray e fr)) (.slice (some ⟨w.heap.size, 0, none⟩) l.length l.length) l := by
  refine ⟨hb, some ⟨w.heap.size, 0, none⟩, l.length, by rw [zAn], by rw [zAn]; exact zN, by unfold maxLen; omega, fun e => (by cases e), fun a ha j u hu => ?_⟩
  cases ha
  rw [Addr.add_mid, cell_of_row _ _ _ (bc l).toArray e fr (heap_alloc_new w _), Nat.zero_add]
  simpa using hu
theorem zUe {l : List Int} (h : l.all (fun x => decide (0 ≤ x) && decide (x ≤ 255)) = true) : Byt l := fun x hx => by
  have := List.all_eq_true.1 h x hx
  simpa using this
theorem zT4 (u : World) (C : Array Value) (n c : Nat) : (convert 23 23 (.slice (some ⟨u.heap.size, 0, none⟩) n c)).run Tryz.prog (u.alloc (.cells C 5)) = .ok (.slice (some ⟨u.heap.size, 0, none⟩) n c) (u.alloc (.cells C 5 (C.size, C.size + 1))) :=
  Lib.run_convert_bytes_const u 23 5 C n c Tryz.underlying23 Tryz.underlying5
theorem shaL_byt (l : List Int) : Byt (zNv l) := out_byt _
end
section
open Go.RowKit Oct Sha
def sL (s : ByteArray) : List Int := s.data.toList.map fun b => (b.toNat : Int)
theorem zGx (s : ByteArray) : (sL s).length = s.size := by rw [sL, List.length_map]; rfl
theorem sL_byt (s : ByteArray) : Byt (sL s) := fun x hx => by
  obtain ⟨b, _, rfl⟩ := List.mem_map.1 hx
  have := b.toNat_lt
  omega
theorem rd_str (w : World) (s : ByteArray) (hs : s.size ≤ maxLen) : Rd (Lib.bytesWorld w 5 s) (.slice (some ⟨w.heap.size, 0, none⟩) s.size (grownCap w s.size 0 5)) (sL s) := by
  refine ⟨sL_byt s, some ⟨w.heap.size, 0, none⟩, grownCap w s.size 0 5, by rw [zAn, zGx], by rw [zAn, zGx]; exact grownCap_ge _ _ _ _, grownCap_le_maxLen _ _ _ _ hs, fun e => (by cases e), fun a ha j u hu => ?_⟩
  cases ha
  have hj : j < (sL s).length := by
    rcases Nat.lt_or_ge j (sL s).length with h | h
    · exact h
    · rw [List.getElem?_eq_none (by rw [zAn]; exact h)] at hu; cases hu
  rw [zDz _ _ hj] at hu
  rw [zGx] at hj
  rw [Addr.add_mid, Nat.zero_add, Lib.bytesWorld_cell w _ s j hj, ← hu]
  have hj' : j < s.data.toList.length := by simpa using hj
  simp [sL, List.getD, List.getElem?_map, List.getElem?_eq_getElem hj']
theorem zUg (w : World) (e : TypeId) (s : ByteArray) : Below w.heap.size w (Lib.bytesWorld w e s) :=
  ⟨rfl, rfl, rfl, by rw [Lib.bytesWorld_size]; omega, fun k hk => Lib.bytesWorld_at_old w e s k hk⟩
theorem wl_str {w : World} {ops : Array Oper} {rest : List Oper} {o : Oper} {a : Act} {Q : Exit → Act → World → Prop} (hgd : Region.wanted o (yielded ops a.tmps) = true) (x : Operand)
    (ho : o.op = .convert 9 23 x) (s : ByteArray) (hx : a.eval x = .string s) (hs : s.size ≤ maxLen)
    (h : ∀ v w', Rd w' v (sL s) → Fr w.heap.size v → Below w.heap.size w w' → wpList Tryz.prog ops Q rest (a.put o.dst v) w') : wpList Tryz.prog ops Q (o :: rest) a w := by
  refine zE0 hgd fun K hK => ?_
  unfold Oper.wp
  simp [execOp, ho, hx, Lib.run_convert_string_bytes w 9 23 5 s Tryz.underlying9 Tryz.underlying23 Tryz.underlying5, Result.andThen]
  exact hK _ _ (h _ _ (rd_str w s hs) (zBx _ _ _ _ zN) (zUg w _ s))
theorem zLo (w : World) (k : Int) (h0 : 0 ≤ k) (h1 : k ≤ 127) : Calls Tryz.prog 114 #[.int .i64 k] w fun e w' => e = .returned (.bool true) ∧ w' = w := by
  go_enter Tryz.func114, Tryz.ntmps114
  go_wp2_with fail
  go_ret
  exact ⟨rfl, rfl⟩
theorem zP6 (w : World) (k : Int) (h : k < 0 ∨ 127 < k) : Calls Tryz.prog 114 #[.int .i64 k] w fun e w' => e = .returned (.bool false) ∧ w' = w := by
  rcases h with h | h
  · have h0 : decide (0 ≤ k) = false := by simpa using h
    go_enter Tryz.func114, Tryz.ntmps114
    go_wp2_with fail
    go_ret
    exact ⟨rfl, rfl⟩
  · have h1 : decide (k ≤ 127) = false := by simpa using h
    go_enter Tryz.func114, Tryz.ntmps114
    go_wp2_with fail
    go_ret
    exact ⟨rfl, rfl⟩
def zHb (i : Int) : Int := if 0 ≤ i ∧ i ≤ 15 then i else -1
theorem zI3 (w : World) (i : Int) : Calls Tryz.prog 40 #[.int .i64 i] w fun e w' => e = .returned (.int .i64 (zHb i)) ∧ w' = w := by
  by_cases h0 : i < 0
  · rw [zHb, if_neg (by omega)]
    go_enter Tryz.func40, Tryz.ntmps40
    go_wp2_with fail
    go_ret
    exact ⟨rfl, rfl⟩
  by_cases h1 : 15 < i
  · rw [zHb, if_neg (by omega)]
    go_enter Tryz.func40, Tryz.ntmps40
    go_wp2_with fail
    go_ret
    exact ⟨rfl, rfl⟩
  · rw [zHb, if_pos (by omega)]
    go_enter Tryz.func40, Tryz.ntmps40
    go_wp2_with fail
    go_ret
    exact ⟨rfl, rfl⟩
theorem zJ7 (w : World) (i : Int) : Calls Tryz.prog 53 #[.int .i64 i] w fun e w' => e = .returned (.int .i64 (zHb i)) ∧ w' = w := by
  by_cases h0 : 0 ≤ i
  · by_cases h1 : i ≤ 15
    · rw [zHb, if_pos (by omega)]
      go_enter Tryz.func53, Tryz.ntmps53
      go_wp2_with fail
      go_ret
      exact ⟨rfl, rfl⟩
    · rw [zHb, if_neg (by omega)]
      go_enter Tryz.func53, Tryz.ntmps53
      go_wp2_with fail
      go_ret
      exact ⟨rfl, rfl⟩
  · rw [zHb, if_neg (by omega)]
    go_enter Tryz.func53, Tryz.ntmps53
    go_wp2_with fail
    go_ret
    exact ⟨rfl, rfl⟩
theorem zV3 (w : World) (u v : Value) (a b : List Int) (ha : Rd w u a) (hb : Rd w v b) :
    Calls Tryz.prog 130 #[u, v] w fun e w' => e = .returned (.bool (decide (a = b))) ∧ w' = w := by
  have h1 := zEg ha
  have h2 := zEg hb
  have h3 := str_eq ha.1 hb.1
  clear ha hb
  rw [← h3]
  clear h3
  go_enter Tryz.func130, Tryz.ntmps130
  go_wp2_with fail
  go_ret
  exact ⟨rfl, rfl⟩
end
section
open Go.RowKit Oct Sha
def zE7 : List Int := [115, 105, 103, 110]
def zT6 (k : Int) (d : List Int) (ll : List (List Int)) : List Int := if 0 ≤ k ∧ k ≤ 127 then zB8 ([zE7, enc k, d] ++ ll) else []
def zGk (k : Int) (d : List Int) (ll : List (List Int)) : List Int := if 0 ≤ k ∧ k ≤ 127 then zNv (zB8 ([zE7, enc k, d] ++ ll)) else []
def zPz (k : Int) (sig : List Int) (d : List Int) (ll : List (List Int)) : Bool := if 0 ≤ k ∧ k ≤ 127 then decide (sig = zGk k d ll) else false
theorem zEc {k : Int} (d : List Int) (ll : List (List Int)) (h0 : 0 ≤ k) (h1 : k ≤ 127) : zT6 k d ll = zB8 ([zE7, enc k, d] ++ ll) := if_pos ⟨h0, h1⟩
theorem zF2 {k : Int} (d : List Int) (ll : List (List Int)) (h : k < 0 ∨ 127 < k) : zT6 k d ll = [] := if_neg (by omega)
theorem zIr {k : Int} (d : List Int) (ll : List (List Int)) (h0 : 0 ≤ k) (h1 : k ≤ 127) : zGk k d ll = zNv (zB8 ([zE7, enc k, d] ++ ll)) := if_pos ⟨h0, h1⟩
theorem zKe {k : Int} (d : List Int) (ll : List (List Int)) (h : k < 0 ∨ 127 < k) : zGk k d ll = [] := if_neg (by omega)
theorem zHs (k : Int) (d : List Int) (ll : List (List Int)) : Byt (zGk k d ll) := by
  unfold zGk
  split
  · exact shaL_byt _
  · exact Byt.nil
theorem zOy (l : List Int) (ll : List (List Int)) : 0 < (zB8 (l :: ll)).length := by
  simp only [zB8, List.length_append]
  have := (zB7 (l.length : Int)).1
  omega
theorem zEf (k : Int) (d : List Int) (ll : List (List Int)) : tot ([zE7, enc k, d] ++ ll) ≤ 17 + d.length + tot ll := by
  have := zB7 k
  simp only [zLf, tot, zE7, List.length_cons, List.length_nil]
  omega
theorem zKo {w : World} : ∀ {vs : List Value} {ll : List (List Int)}, zC0 (Rd w) vs ll → ∀ u ∈ vs, u.oneCell' = true
  | [], _, _, u, hu => by cases hu
  | v :: vs, [], h, _, _ => h.elim
  | v :: vs, l :: ll, h, u, hu => by
    rcases List.mem_cons.1 hu with e | e
    · subst e
      obtain ⟨ao, cap, rfl, _⟩ := h.1.form
      rfl
    · exact zKo h.2 u e
theorem zId {w w' : World} {vs : List Value} {ll : List (List Int)} (h : zC0 (Rd w) vs ll) (hb : Below w.heap.size w w') : zC0 (Rd w') vs ll := h.mono fun _ _ h => h.below hb
theorem run_mkl (m n : Nat) (hn : m + n ≤ 1000000000) (u : World) : (Instr.makeSlice 82 (.int .i64 0) (.int .i64 ((m : Int) + (n : Int)))).run Tryz.prog u =
    .ok (.slice (some ⟨u.heap.size, 0, none⟩) 0 (m + n)) (u.alloc (.cells (madeCells #[.slice none 0 0] (m + n)) 23)) := by
  obtain ⟨i0, hi, hz0, hz1, hz2⟩ := info_parts Tryz.info23
  have h := run_make (P := Tryz.prog) u 82 23 i0 (.slice none 0 0) Tryz.underlying82 hi hz0 .i64 .i64 0 ((m : Int) + (n : Int)) (by omega) (by omega) (by rw [hz2]; omega) (by omega)
  rw [show ((m : Int) + (n : Int)).toNat = m + n by omega] at h
  simpa [hz1, Value.cells] using h
theorem zT1 (w : World) (n : Nat) (hn : n ≤ 1000000000) : Own (w.alloc (.cells (madeCells #[.slice none 0 0] n) 23)) 23 (.slice (some ⟨w.heap.size, 0, none⟩) 0 n) [] :=
  ⟨rfl, .inr ⟨w.heap.size, n, madeCells #[.slice none 0 0] n, rfl, Nat.zero_le _, heap_alloc_new w _, Nat.zero_le _, by unfold maxLen; omega, by simp [madeCells], rfl⟩⟩
set_option maxHeartbeats 400000 in
theorem zJf (w : World) (pv fv : Value) (lp lf : List (List Int)) (hp : Rdl w pv lp) (hf : Rdl w fv lf) (ht : tot (lf ++ lp) ≤ 10000000) :
    Calls Tryz.prog 115 #[pv, fv] w fun e w' => ∃ v', e = .returned v' ∧ Own w' 5 v' (bc (zB8 (lf ++ lp))) ∧ Fr w.heap.size v' ∧ Below w.heap.size w w' := by
  obtain ⟨vp, hvp, hap⟩ := hp
  obtain ⟨vf, hvf, haf⟩ := hf
  obtain ⟨ap, cp, rfl, hcp⟩ := hvp.form
  obtain ⟨af, cf, rfl, hcf⟩ := hvf.form
  have ht' := zLf lf lp
  have l1 := zGp lp
  have l2 := zGp lf
  have l3 := Nat.le_of_eq hap.len
  have l4 := Nat.le_of_eq haf.len
  have l5 : vp.length ≤ 10000000 := by omega
  have l6 : vf.length ≤ 10000000 := by omega
  clear ht' l1 l2 l3 l4
  have hmk := run_mkl vf.length vp.length (by omega)
  obtain ⟨O, hO⟩ : ∃ O, O = Obj.cells (madeCells #[.slice none 0 0] (vf.length + vp.length)) 23 := ⟨_, rfl⟩
  have how : Own (w.alloc O) 23 (.slice (some ⟨w.heap.size, 0, none⟩) 0 (vf.length + vp.length)) [] := hO ▸ zT1 w _ (by omega)
  rw [← hO] at hmk
  clear hO
  have b0 := zA0 w O
  have hfr : Fr w.heap.size (.slice (some ⟨w.heap.size, 0, none⟩) 0 (vf.length + vp.length)) := zBx _ _ _ _ zN
  go_enter Tryz.func115, Tryz.ntmps115
  go_wp2_with (first
    | (at_builtin; refine zLg rfl _ _ rfl _ [] rfl how _ vf rfl (hvf.below b0) (zKo haf) (by simp only [List.length_nil]; omega) ?_; intro v1 w1 happ1; have b1 : Below w.heap.size w w1 := b0.trans (happ1.below hfr b0.size); have f1 := happ1.fr hfr b0.size)
    | (at_builtin; refine zLg rfl _ _ rfl v1 ([] ++ vf) rfl happ1.own _ vp rfl (hvp.below b1) (zKo hap) (by simp only [List.nil_append]; omega) ?_; intro v2 w2 happ2; have b2 : Below w.heap.size w w2 := b1.trans (happ2.below f1 b1.size)))
  have ho2 := happ2.own
  rw [List.nil_append] at ho2
  refine (zP5 w2 v2 (lf ++ lp) ⟨vf ++ vp, ho2.rdv, zC0.app (zId haf b2) (zId hap b2)⟩ ht).mono ?_
  rintro e w3 ⟨v3, rfl, ho3, hf3, hb3⟩
  go_wp2_with fail
  go_ret
  exact ⟨_, rfl, ho3, hf3.mono b2.size, zA1 b2 zN hb3⟩
set_option maxHeartbeats 400000 in
theorem text_any (w : World) (k : Int) (s : ByteArray) (pv : Value) (ll : List (List Int)) (hp : Rdl w pv ll) (hs : s.size ≤ 4000000) (ht : tot ll ≤ 4000000) :
    Calls Tryz.prog 75 #[.int .i64 k, .string s, pv] w fun e w' => ∃ v', e = .returned v' ∧ Own w' 5 v' (bc (zT6 k (sL s) ll)) ∧ Fr w.heap.size v' ∧ Below w.heap.size w w' := by
  by_cases hk : k < 0 ∨ 127 < k
  · rw [zF2 _ _ hk]
    go_enter Tryz.func75, Tryz.ntmps75
    go_wp2_with fail
    refine (zP6 w k hk).mono ?_
    rintro e w' ⟨rfl, rfl⟩
    go_wp2_with fail
    go_ret
    exact ⟨_, rfl, Own.nil _ _, Fr.nil _, Below.refl _ _⟩
  · have h0 : 0 ≤ k := by omega
    have h1 : k ≤ 127 := by omega
    clear hk
    rw [zEc _ _ h0 h1]
    have hI := zRu w k
    rw [zF0 (by omega) (by omega), zCj (by omega) (by omega)] at hI
    have hcv := zT4
    have htt := zEf k (sL s) ll
    rw [zGx] at htt
    go_enter Tryz.func75, Tryz.ntmps75
    go_wp2_with fail
    refine (zLo w k h0 h1).mono ?_
    rintro e w' ⟨rfl, rfl⟩
    go_wp2_with fail
    refine hI.mono ?_
    rintro e w1 ⟨v1, rfl, hown, hfr, hb1⟩
    clear hI
    have r1 := hown.rd (zGm k h0 (by omega))
    obtain ⟨a1, c1, rfl, hc1⟩ := r1.form
    have q1 := rd_lit w1 zE7 5 (4, 5) (zUe (by decide)) (by decide) (by decide)
    have b1 := zA0 w1 (.cells (bc zE7).toArray 5 (4, 5))
    go_wp2_with (refine wl_str (by rfl) _ (by rfl) s (by rfl) (by unfold maxLen; omega) ?_; intro v2 w2 hr2 hf2 hb2; obtain ⟨a2, c2, rfl, hc2⟩ := hr2.form)
    have B2 : Below w1.heap.size w1 w2 := zA1 b1 zN hb2
    have q2 := q1.below hb2
    have r2 := r1.below B2
    have b3 := zA0 w2 (.cells #[.slice (some ⟨w1.heap.size, 0, none⟩) 4 4, .slice a1 (enc k).length c1, .slice a2 (sL s).length c2] 23)
    have B3 := zA1 (zA1 hb1 zN B2) zN b3
    refine (zJf _ pv _ ll [zE7, enc k, sL s] (hp.below B3) ⟨[.slice (some ⟨w1.heap.size, 0, none⟩) 4 4, .slice a1 (enc k).length c1, .slice a2 (sL s).length c2], zGq w2 [.slice (some ⟨w1.heap.size, 0, none⟩) 4 4, .slice a1 (enc k).length c1, .slice a2 (sL s).length c2] 23 (by simp) (by simp), q2.below b3, r2.below b3, hr2.below b3, trivial⟩ (by omega)).mono ?_
    rintro e w4 ⟨v4, rfl, ho4, hf4, hb4⟩
    go_wp2_with fail
    go_ret
    exact ⟨_, rfl, ho4, hf4.mono B3.size, zA1 B3 zN hb4⟩
theorem zLn (k : Int) (s : ByteArray) (ll : List (List Int)) (hb : Byts ll) (h : s.size + tot ll ≤ 100000000) : Byt (zT6 k (sL s) ll) := by
  by_cases hk : k < 0 ∨ 127 < k
  · rw [zF2 _ _ hk]; exact Byt.nil
  · rw [zEc _ _ (by omega) (by omega)]
    have htt := zEf k (sL s) ll
    rw [zGx] at htt
    refine zHy (fun l hl => ?_) (by omega)
    rcases List.mem_append.1 hl with h | h
    · simp only [List.mem_cons, List.not_mem_nil, or_false] at h
      rcases h with rfl | rfl | rfl
      · exact zUe (by decide)
      · exact zGm k (by omega) (by omega)
      · exact sL_byt s
    · exact hb l h
set_option maxHeartbeats 400000 in
theorem zOl (w : World) (k : Int) (s : ByteArray) (pv : Value) (ll : List (List Int)) (hp : Rdl w pv ll) (hs : s.size ≤ 4000000) (ht : tot ll ≤ 4000000) (hT : Tab w) :
    Calls Tryz.prog 39 #[.int .i64 k, .string s, pv] w fun e w' => ∃ v', e = .returned v' ∧ Own w' 5 v' (bc (zGk k (sL s) ll)) ∧ Fr w.heap.size v' ∧ Below w.heap.size w w' := by
  have hbt := zLn k s ll hp.byts (by omega)
  have hX := text_any w k s pv ll hp hs ht
  by_cases hk : k < 0 ∨ 127 < k
  · rw [zKe _ _ hk]
    rw [zF2 _ _ hk] at hX
    clear hbt
    go_enter Tryz.func39, Tryz.ntmps39
    go_wp2_with fail
    refine hX.mono ?_
    rintro e w1 ⟨v1, rfl, hown, hfr, hb1⟩
    obtain ⟨a1, c1, rfl, hc1⟩ := hown.form
    clear hX
    go_wp2_with fail
    go_ret
    exact ⟨_, rfl, Own.nil _ _, Fr.nil _, hb1⟩
  · have h0 : 0 ≤ k := by omega
    have h1 : k ≤ 127 := by omega
    clear hk
    rw [zIr _ _ h0 h1]
    rw [zEc _ _ h0 h1] at hX hbt
    have hpos : 0 < (zB8 ([zE7, enc k, sL s] ++ ll)).length := zOy _ _
    have hple := zDp ([zE7, enc k, sL s] ++ ll)
    have htt := zEf k (sL s) ll
    rw [zGx] at htt
    generalize zB8 ([zE7, enc k, sL s] ++ ll) = X at hX hbt hpos hple ⊢
    have hne : ((X.length : Int) == 0) = false := by rw [beq_eq_false_iff_ne]; omega
    have hlen : X.length ≤ 1000000000 := by omega
    clear htt hple
    go_enter Tryz.func39, Tryz.ntmps39
    go_wp2_with fail
    refine hX.mono ?_
    rintro e w1 ⟨v1, rfl, hown, hfr, hb1⟩
    clear hX
    have r1 := hown.rd hbt
    obtain ⟨a1, c1, rfl, hc1⟩ := r1.form
    go_wp2_with fail
    refine (sum_any w1 _ X r1 (hT.below hb1) (by omega)).mono ?_
    rintro e w2 ⟨v2, rfl, ho2, hf2, hb2⟩
    go_wp2_with fail
    go_ret
    exact ⟨_, rfl, ho2, hf2.mono hb1.size, zA1 hb1 zN hb2⟩
set_option maxHeartbeats 400000 in
theorem zRe (w : World) (k : Int) (sv : Value) (sig : List Int) (s : ByteArray) (pv : Value) (ll : List (List Int)) (hsv : Rd w sv sig) (hp : Rdl w pv ll) (hs : s.size ≤ 4000000) (ht : tot ll ≤ 4000000) (hT : Tab w) :
    Calls Tryz.prog 106 #[.int .i64 k, sv, .string s, pv] w fun e w' => e = .returned (.bool (zPz k sig (sL s) ll)) ∧ Below w.heap.size w w' := by
  by_cases hk : k < 0 ∨ 127 < k
  · rw [zPz, if_neg (by omega)]
    go_enter Tryz.func106, Tryz.ntmps106
    go_wp2_with fail
    refine (zP6 w k hk).mono ?_
    rintro e w' ⟨rfl, rfl⟩
    go_wp2_with fail
    go_ret
    exact ⟨rfl, Below.refl _ _⟩
  · have h0 : 0 ≤ k := by omega
    have h1 : k ≤ 127 := by omega
    clear hk
    rw [zPz, if_pos ⟨h0, h1⟩]
    have hS := zOl w k s pv ll hp hs ht hT
    have hbt := zHs k (sL s) ll
    generalize zGk k (sL s) ll = X at hS hbt ⊢
    obtain ⟨d, hd⟩ : ∃ d, d = decide (sig = X) := ⟨_, rfl⟩
    rw [← hd]
    have HD := (show Hid (d = decide (sig = X)) from hd)
    clear hd
    go_enter Tryz.func106, Tryz.ntmps106
    go_wp2_with fail
    refine (zLo w k h0 h1).mono ?_
    rintro e w' ⟨rfl, rfl⟩
    go_wp2_with fail
    refine hS.mono ?_
    rintro e w1 ⟨v1, rfl, ho1, hf1, hb1⟩
    clear hS
    have hE := zV3 w1 sv v1 sig X (hsv.below hb1) (ho1.rd hbt)
    rw [← HD.out] at hE
    go_wp2_with fail
    refine hE.mono ?_
    rintro e w2 ⟨rfl, rfl⟩
    clear hE
    go_wp2_with fail
    go_ret
    exact ⟨rfl, hb1⟩
end
section
open Go.RowKit Oct Sha
set_option maxRecDepth 10000 in
set_option maxHeartbeats 1000000 in
theorem zFv (w : World) (k x y s : Int) (v : Value) (l : List Int) (hv : Rd w v l) :
    Calls Tryz.prog 41 #[.int .i64 k, .agg #[.int .i64 x, .int .i64 y], .int .i64 s, v] w fun e w' => ∃ v', e = .returned v' ∧ Rdl w' v' [zBp [k, x, y, s], l] ∧ Below w.heap.size w w' := by
  obtain ⟨ao, cap, rfl, hcap⟩ := hv.form
  go_enter Tryz.func41, Tryz.ntmps41
  go_wp2_with fail
  have hr := zGq (w.alloc (.cells #[.int .i64 x, .int .i64 y] 32)) (nc [k, x, y, s]) 3 (by simp [nc]) (by simp [nc])
  rw [show (w.alloc (.cells #[.int .i64 x, .int .i64 y] 32)).heap.size = w.heap.size + 1 by simp] at hr
  have b0 : Below w.heap.size w ((w.alloc (.cells #[.int .i64 x, .int .i64 y] 32)).alloc (.cells (nc [k, x, y, s]).toArray 3)) := zA1 (zA0 w _) zN (zA0 _ _)
  refine (nums_any _ _ [k, x, y, s] hr (by simp) (by simp)).mono ?_
  rintro e w1 ⟨v1, rfl, ho1, hf1, hb1⟩
  have B1 := zA1 b0 zN hb1
  have r1 := ho1.rd (zIw _)
  have v1' := hv.below B1
  clear hr b0 hb1 ho1 hf1
  obtain ⟨a1, c1, rfl, hc1⟩ := r1.form
  go_wp2_with fail
  go_ret
  exact ⟨_, rfl, ⟨[.slice a1 (zBp [k, x, y, s]).length c1, .slice ao l.length cap], zGq w1 [.slice a1 (zBp [k, x, y, s]).length c1, .slice ao l.length cap] 23 (by simp) (by simp), r1.below (zA0 _ _), v1'.below (zA0 _ _), trivial⟩, zA1 B1 zN (zA0 _ _)⟩
set_option maxRecDepth 10000 in
set_option maxHeartbeats 2000000 in
theorem zLs (w : World) (k x y s i : Int) (v : Value) (l : List Int) (hv : Rd w v l) (hl : l.length ≤ 3000000) (hT : Tab w) :
    Calls Tryz.prog 20 #[.int .i64 k, .agg #[.int .i64 x, .int .i64 y], .int .i64 s, v, .int .i64 i] w fun e w' => ∃ v', e = .returned (.agg #[.int .i64 i, v']) ∧ RT (zB0 w.heap.size) w' v' (zGk (zHb i) (sL ⟨#[118, 111, 116, 101]⟩) [zBp [k, x, y, s], l]) ∧ Below w.heap.size w w' := by
  obtain ⟨ao, cap, rfl, hcap⟩ := hv.form
  obtain ⟨w0, hw0⟩ : ∃ w0, w0 = (w.alloc (.cells #[.int .i64 x, .int .i64 y] 32)).alloc (.cells #[.int .i64 0, .slice none 0 0] 58) := ⟨_, rfl⟩
  have ra : Row w0 w.heap.size 32 [.int .i64 x, .int .i64 y] := by rw [hw0]; exact (Row.new w 32 _).below (zA0 _ _)
  have rb : Row w0 (w.heap.size + 1) 58 [.int .i64 0, .slice none 0 0] := by rw [hw0, show w.heap.size + 1 = (w.alloc (.cells #[.int .i64 x, .int .i64 y] 32)).heap.size by simp]; exact Row.new _ 58 _
  have B0 : Below w.heap.size w w0 := by rw [hw0]; exact zA1 (zA0 _ _) zN (zA0 _ _)
  have hdw : Below w0.heap.size w0 w0.drew := ⟨rfl, rfl, rfl, zN, fun _ _ => rfl⟩
  go_enter Tryz.func20, Tryz.ntmps20
  go_upto_region 1 with fail
  rw [← hw0]
  clear hw0
  have v0 := hv.below B0
  have SK := (show Hid (∀ u, Below w0.heap.size w0 u → u.cell? ⟨w.heap.size, 0, none⟩ = some (.int .i64 x) ∧ u.cell? ⟨w.heap.size, 1, none⟩ = some (.int .i64 y)) from fun u hu => ⟨(ra.below hu).cell (j := 0) rfl, (ra.below hu).cell (j := 1) rfl⟩)
  obtain ⟨a0, a1⟩ := SK.out w0 (Below.refl _ _)
  have HR := (show Hid (∀ u : World, Calls Tryz.prog 40 #[.int .i64 i] u fun e w' => e = .returned (.int .i64 (zHb i)) ∧ w' = u) from fun u => zI3 u i)
  have HT := (show Hid (tot [zBp [k, x, y, s], l] ≤ 4000000) by show _ ≤ _; simp only [tot, zDn, List.length_cons, List.length_nil]; omega)
  go_wp2_with fail
  go_region_held3 (fun u => u.cell? ⟨w.heap.size, 0, none⟩ = some (.int .i64 x) ∧ u.cell? ⟨w.heap.size, 1, none⟩ = some (.int .i64 y))
    (first | exact SK.out _ (by assumption) | go_keep)
    (first
      | (go_at_call 39; refine (zOl w3 (zHb i) ⟨#[118, 111, 116, 101]⟩ v3 _ r3 (by decide) HT.out (hT.below (zA1 B0 zN hb3))).mono ?_; rintro e w4 ⟨v4, rfl, ho4, hf4, hb4⟩; have hB4 : Below w0.heap.size w0 w4 := zA1 hb3 zN hb4)
      | (go_at_call 41; refine (zFv w0.drew k x y s _ l (v0.below hdw)).mono ?_; rintro e w3 ⟨v3, rfl, r3, hb3'⟩; have hb3 : Below w0.heap.size w0 w3 := zA1 hdw zN hb3')
      | (go_at_call 40; refine (HR.out _).mono ?_; rintro e w2 ⟨rfl, rfl⟩))
  have B4 := zA1 B0 zN hB4
  have rb4 := rb.below hB4
  have hlt3 : w.heap.size + 1 < w3.heap.size := Nat.lt_of_lt_of_le rb.lt hb3.size
  have hRT := RT.own ho4 (zHs _ _ _) hf4
  clear ho4 hf4
  obtain ⟨a4, c4, rfl, hc4⟩ := hRT.form
  go_wp2_with (refine zA7 rfl _ _ _ rfl (w.heap.size + 1) [.int .i64 i, .slice a4 _ c4] rfl rfl _ _ rb4 rfl (by kernel_rfl) (fun u hu => by simp only [List.mem_cons, List.not_mem_nil, or_false] at hu; rcases hu with rfl | rfl <;> rfl) ?_; intro w5 hr5 hg5)
  have hr5 := hr5.out
  refine bodyPost_ret (v := .agg ([.int .i64 i, .slice a4 _ c4] : List Value).toArray) (results_cell_row rfl _ _ (w.heap.size + 1) _ _ (0, 0) _ (by rfl) hr5 Tryz.underlying58 rfl (by kernel_rfl)) rfl ?_
  exact ⟨_, rfl, hRT.mv (Mv.from hg5 hlt3 (by omega)), B4.trans (zA5 hg5 B4.size (fun k hk => by cases hk; omega))⟩
set_option maxRecDepth 10000 in
set_option maxHeartbeats 2000000 in
theorem zJk (w : World) (k x y s i : Int) (v : Value) (l : List Int) (hv : Rd w v l) (hl : l.length ≤ 3000000) (gv : Value) (g : List Int) (hg : Rd w gv g) (hT : Tab w) :
    Calls Tryz.prog 62 #[.int .i64 k, .agg #[.int .i64 x, .int .i64 y], .int .i64 s, v, .agg #[.int .i64 i, gv]] w fun e w' => e = .returned (.bool (zPz (zHb i) g (sL ⟨#[118, 111, 116, 101]⟩) [zBp [k, x, y, s], l])) ∧ Below w.heap.size w w' := by
  obtain ⟨ao, cap, rfl, hcap⟩ := hv.form
  obtain ⟨ag, gap, rfl, hgap⟩ := hg.form
  obtain ⟨w0, hw0⟩ : ∃ w0, w0 = (w.alloc (.cells #[.int .i64 x, .int .i64 y] 32)).alloc (.cells #[.int .i64 i, .slice ag g.length gap] 58) := ⟨_, rfl⟩
  have ra : Row w0 w.heap.size 32 [.int .i64 x, .int .i64 y] := by rw [hw0]; exact (Row.new w 32 _).below (zA0 _ _)
  have rb : Row w0 (w.heap.size + 1) 58 [.int .i64 i, .slice ag g.length gap] := by rw [hw0, show w.heap.size + 1 = (w.alloc (.cells #[.int .i64 x, .int .i64 y] 32)).heap.size by simp]; exact Row.new _ 58 _
  have B0 : Below w.heap.size w w0 := by rw [hw0]; exact zA1 (zA0 _ _) zN (zA0 _ _)
  have hdw : Below w0.heap.size w0 w0.drew := ⟨rfl, rfl, rfl, zN, fun _ _ => rfl⟩
  go_enter Tryz.func62, Tryz.ntmps62
  go_upto_region 1 with fail
  rw [← hw0]
  clear hw0
  have v0 := hv.below B0
  have g0 := hg.below B0
  have SK := (show Hid (∀ u, Below w0.heap.size w0 u → u.cell? ⟨w.heap.size, 0, none⟩ = some (.int .i64 x) ∧ u.cell? ⟨w.heap.size, 1, none⟩ = some (.int .i64 y) ∧ u.cell? ⟨w.heap.size + 1, 0, none⟩ = some (.int .i64 i) ∧ u.cell? ⟨w.heap.size + 1, 1, none⟩ = some (.slice ag g.length gap)) from fun u hu => ⟨(ra.below hu).cell (j := 0) rfl, (ra.below hu).cell (j := 1) rfl, (rb.below hu).cell (j := 0) rfl, (rb.below hu).cell (j := 1) rfl⟩)
  obtain ⟨a0, a1, a2, a3⟩ := SK.out w0 (Below.refl _ _)
  have HR := (show Hid (∀ u : World, Calls Tryz.prog 40 #[.int .i64 i] u fun e w' => e = .returned (.int .i64 (zHb i)) ∧ w' = u) from fun u => zI3 u i)
  have HT := (show Hid (tot [zBp [k, x, y, s], l] ≤ 4000000) by show _ ≤ _; simp only [tot, zDn, List.length_cons, List.length_nil]; omega)
  go_wp2_with fail
  go_region_held3 (fun u => u.cell? ⟨w.heap.size, 0, none⟩ = some (.int .i64 x) ∧ u.cell? ⟨w.heap.size, 1, none⟩ = some (.int .i64 y) ∧ u.cell? ⟨w.heap.size + 1, 0, none⟩ = some (.int .i64 i) ∧ u.cell? ⟨w.heap.size + 1, 1, none⟩ = some (.slice ag g.length gap))
    (first | exact SK.out _ (by assumption) | go_keep)
    (first
      | (go_at_call 106; refine (zRe w3 (zHb i) _ g ⟨#[118, 111, 116, 101]⟩ v3 _ (g0.below hb3) r3 (by decide) HT.out (hT.below (zA1 B0 zN hb3))).mono ?_; rintro e w4 ⟨rfl, hb4⟩; have hB4 : Below w0.heap.size w0 w4 := zA1 hb3 zN hb4)
      | (go_at_call 41; refine (zFv w0.drew k x y s _ l (v0.below hdw)).mono ?_; rintro e w3 ⟨v3, rfl, r3, hb3'⟩; have hb3 : Below w0.heap.size w0 w3 := zA1 hdw zN hb3')
      | (go_at_call 40; refine (HR.out _).mono ?_; rintro e w2 ⟨rfl, rfl⟩))
  have B4 := zA1 B0 zN hB4
  go_wp2_with fail
  go_ret
  exact ⟨rfl, B4⟩
end
section
open Go.RowKit Oct
set_option maxRecDepth 10000 in
set_option maxHeartbeats 2000000 in
theorem zDs (w : World) (r : List Value) (x : zB3) (h : zCs Any w r x) (hz : tot [x.2.2.1, x.2.2.2] ≤ 10000000) :
    Calls Tryz.prog 21 #[.agg r.toArray] w fun e w' => ∃ v', e = .returned v' ∧ Own w' 5 v' (bc (zB6 x)) ∧ Fr w.heap.size v' ∧ Below w.heap.size w w' := by
  obtain ⟨vo, vg, rfl, ho, hg⟩ := h
  obtain ⟨oo, oc, rfl, hoc⟩ := ho.form
  obtain ⟨go, gc, rfl, hgc⟩ := hg.form
  generalize hvo : Value.slice oo x.2.2.1.length oc = vo at *
  generalize hvg : Value.slice go x.2.2.2.length gc = vg at *
  obtain ⟨w2, hw2⟩ : ∃ w2, w2 = (w.alloc (.cells #[.int .i64 x.1, .int .i64 x.2.1, vo, vg] 34)) := ⟨_, rfl⟩
  have ra : Row w2 w.heap.size 34 [.int .i64 x.1, .int .i64 x.2.1, vo, vg] := by rw [hw2]; exact Row.new w 34 _
  have hB : Below w.heap.size w w2 := by rw [hw2]; exact ((Below.refl _ w).alloc zN _)
  have a0 := ra.cell (j := 0) rfl
  go_enter Tryz.func21, Tryz.ntmps21
  go_upto_region 1 with fail
  rw [← hw2]
  clear hw2
  have a1 := ra.cell (j := 1) rfl
  have hdw : Below w2.heap.size w2 w2.drew := ⟨rfl, rfl, rfl, zN, fun _ _ => rfl⟩
  have SK := (show Hid (∀ u, Below w2.heap.size w2 u → u.cell? ⟨w.heap.size, 0, none⟩ = some (.int .i64 x.1) ∧ u.cell? ⟨w.heap.size, 1, none⟩ = some (.int .i64 x.2.1)) from fun u hu => ⟨(hu.cell (p := ⟨w.heap.size, 0, none⟩) ra.lt).trans a0, (hu.cell (p := ⟨w.heap.size, 1, none⟩) ra.lt).trans a1⟩)
  have hA := zFb w2.drew (.slice none 0 0) [] x.1 (Own.nil _ _) (by simp)
  rw [List.nil_append] at hA
  have HA := (show Hid (∀ _ : Unit, _) from fun _ => hA)
  clear hA
  go_wp2_with fail
  go_region_held3 (fun u => u.cell? ⟨w.heap.size, 0, none⟩ = some (.int .i64 x.1) ∧ u.cell? ⟨w.heap.size, 1, none⟩ = some (.int .i64 x.2.1))
    (first | exact SK.out _ (by assumption) | go_keep)
    (first
      | (go_at_call 42; refine (zFb w3 v3 (le8 (u64 x.1)) x.2.1 happ3.own (by rw [zC5]; decide)).mono ?_; rintro e w4 ⟨v4, rfl, happ4⟩; have hb4 : Below w2.heap.size w2 w4 := hb3.trans (happ4.below (happ3.fr (Fr.nil _) zN) hb3.size))
      | (go_at_call 42; refine (HA.out ()).mono ?_; rintro e w3 ⟨v3, rfl, happ3⟩; have hb3 : Below w2.heap.size w2 w3 := hdw.trans (happ3.below (Fr.nil _) zN)))
  have ra4 := ra.below hb4
  have c2 := ra4.cell (j := 2) rfl
  have c3 := ra4.cell (j := 3) rfl
  have hB4 := zA1 hB zN hb4
  have ho4 := (ho.mv (Mv.below hB4)).1
  have hg4 := (hg.mv (Mv.below hB4)).1
  have hf3 := happ3.fr (Fr.nil w2.drew.heap.size) zN
  have hf4 := happ4.fr hf3 hb3.size
  have hown4 := happ4.own
  have hl : Rdl (w4.alloc (.cells #[vo, vg] 23)) (.slice (some ⟨w4.heap.size, 0, none⟩) 2 2) [x.2.2.1, x.2.2.2] :=
    ⟨[vo, vg], Own.rdv (e := 23) (World.ownsRow_lit (base := 0) (size := 1) w4 #[vo, vg] 2 (Nat.zero_le _) (by decide) rfl), ho4.below (zA0 _ _), hg4.below (zA0 _ _), trivial⟩
  have hP := zP5 _ _ _ hl hz
  clear ra ra4 a0 a1 hdw SK HA happ3 happ4 hf3 hl ho4 hg4
  subst hvo hvg
  go_wp2_with fail
  refine hP.mono ?_
  rintro e w5 ⟨v5, rfl, hown5, hfr5, hb5⟩
  have hb45 : Below w4.heap.size w4 w5 := (zA0 w4 _).trans (hb5.mono (by simp))
  have hB5 := zA1 hB4 zN hb45
  have hown4' := hown4.below hb45
  have hrd5 := hown5.rdv
  have hf4w : Fr w.heap.size v4 := hf4.mono hB.size
  have hpl := zDp [x.2.2.1, x.2.2.2]
  have h16 : (le8 (u64 x.1) ++ le8 (u64 x.2.1)).length = 16 := rfl
  have HL := (show Hid ((le8 (u64 x.1) ++ le8 (u64 x.2.1)).length + (zB8 [x.2.2.1, x.2.2.2]).length ≤ 140737488355328) by show _ ≤ _; omega)
  clear hP hown4 hown5 hfr5 hb5 hb45 hf4 hb3 hpl h16 c2 c3 hb4
  go_wp2_with (at_builtin; refine zAx rfl _ _ rfl v4 _ rfl hown4' v5 _ rfl hrd5 HL.out ?_; intro v6 w6 happ6)
  go_ret
  exact ⟨_, rfl, happ6.own, happ6.fr hf4w hB5.size, hB5.trans (happ6.below hf4w hB5.size)⟩
end
section
open Go.RowKit Oct Kvl
structure PSn where
  key : PK
  req : zB3
  sig : List Int
  told : Bool
def ev0 (q : PK) (r1 : zB3) (s1 : List Int) (r2 : zB3) (s2 : List Int) : PMsg :=
  { zAc with kind := 13, idx := q.1, bal := (q.2.1, q.2.2.1), slot := q.2.2.2.1, frm := q.2.2.2.2, req := r1, sig := s1, oth := r2, data := s2 }
def evL (q : PK) (r1 : zB3) (s1 : List Int) (r2 : zB3) (s2 : List Int) : PMsg :=
  if 0 < zD8 (zB6 r1) (zB6 r2) then ev0 q r2 s2 r1 s1 else ev0 q r1 s1 r2 s2
def zDi (ls : List PSn) : List PK := ls.map (·.key)
def zBw (ls : List PSn) (q : PK) (r : zB3) (g : List Int) : List PSn × List PMsg :=
  match fnd q (zDi ls) with
  | none => (if ls.length < 8192 then ls ++ [⟨q, r, g, false⟩] else ls, [])
  | some j => match ls[j]? with
    | none => (ls, [])
    | some z => if z.told = true ∨ zB6 z.req = zB6 r then (ls, []) else (ls.set j { z with told := true }, [evL q z.req z.sig r g])
def zMn (k x y s : Int) (r : zB3) (v : zAy) : Bool := zPz (zHb v.1) v.2 (sL ⟨#[118, 111, 116, 101]⟩) [zBp [k, x, y, s], zB6 r]
def zPg (k x y s : Int) (r : zB3) (st : List PSn × List PMsg) (v : zAy) : List PSn × List PMsg :=
  if zMn k x y s r v = true then ((zBw st.1 (k, x, y, s, v.1) r v.2).1, st.2 ++ (zBw st.1 (k, x, y, s, v.1) r v.2).2) else st
def noteV (ls : List PSn) (k x y s : Int) (r : zB3) (vs : List zAy) : List PSn × List PMsg := vs.foldl (zPg k x y s r) (ls, [])
def zH5 (ls : List PSn) (k x y s : Int) (r : zB3) (vs : List zAy) : List PSn × List PMsg := if k = 2 ∨ k = 3 then noteV ls k x y s r vs else (ls, [])
def cutL (ls : List PSn) (s : Int) : List PSn := ls.filter fun z => decide (s < z.key.2.2.2.1)
def okS (z : PSn) : Prop := tot [z.req.2.2.1, z.req.2.2.2] ≤ 2000000 ∧ szT z.sig
structure OkL (ls : List PSn) : Prop where
  dup : (zDi ls).Nodup
  ok : ∀ z ∈ ls, okS z
  len : ls.length ≤ 8192
theorem OkL.nil : OkL [] := ⟨by simp [zDi], by simp, by simp⟩
theorem keys_set {ls : List PSn} {j : Nat} {z y : PSn} (hz : ls[j]? = some z) (hk : y.key = z.key) : zDi (ls.set j y) = zDi ls := by
  unfold zDi
  rw [List.map_set]
  refine List.ext_getElem? fun i => ?_
  rw [List.getElem?_set]
  by_cases hi : j = i
  · subst hi
    have hjl := (List.getElem?_eq_some_iff.1 hz).1
    simp [hjl, hk, hz]
    have := (List.getElem?_eq_some_iff.1 hz).2
    rw [this]
  · simp [hi]
theorem fnd_at {ls : List PSn} {q : PK} {j : Nat} (h : fnd q (zDi ls) = some j) : ∃ z, ls[j]? = some z ∧ z.key = q := by
  obtain ⟨h1, h2⟩ := zOg h
  unfold zDi at h2
  rw [List.getElem?_map] at h2
  cases hz : ls[j]? with
  | none => simp [hz] at h2
  | some z =>
    simp [hz] at h2
    exact ⟨z, rfl, h2⟩
theorem zIq {ls : List PSn} {q : PK} {r : zB3} {g : List Int} (h : fnd q (zDi ls) = none) : zBw ls q r g = (if ls.length < 8192 then ls ++ [⟨q, r, g, false⟩] else ls, []) := by
  unfold zBw; rw [h]
theorem zP3 {ls : List PSn} {q : PK} {r : zB3} {g : List Int} {j : Nat} {z : PSn} (h : fnd q (zDi ls) = some j) (hz : ls[j]? = some z) (ht : z.told = true ∨ zB6 z.req = zB6 r) : zBw ls q r g = (ls, []) := by
  unfold zBw; simp only [h, hz, if_pos ht]
theorem zK7 {ls : List PSn} {q : PK} {r : zB3} {g : List Int} {j : Nat} {z : PSn} (h : fnd q (zDi ls) = some j) (hz : ls[j]? = some z) (ht : ¬ (z.told = true ∨ zB6 z.req = zB6 r)) :
    zBw ls q r g = (ls.set j { z with told := true }, [evL q z.req z.sig r g]) := by
  unfold zBw; simp only [h, hz, if_neg ht]
theorem OkL.meet {ls : List PSn} (h : OkL ls) (q : PK) {r : zB3} {g : List Int} (hr : tot [r.2.2.1, r.2.2.2] ≤ 2000000) (hg : szT g) : OkL (zBw ls q r g).1 := by
  cases hf : fnd q (zDi ls) with
  | none =>
    rw [zIq hf]
    by_cases hl : ls.length < 8192
    · simp only [if_pos hl]
      refine ⟨?_, ?_, by simp; omega⟩
      · unfold zDi
        rw [List.map_append, List.nodup_append]
        refine ⟨h.dup, by simp, ?_⟩
        intro a ha c hc
        simp at hc
        subst hc
        exact fun e => zP9 hf (e ▸ ha)
      · intro z hz
        rcases List.mem_append.1 hz with hz | hz
        · exact h.ok z hz
        · simp at hz
          subst hz
          exact ⟨hr, hg⟩
    · simp only [if_neg hl]
      exact h
  | some j =>
    obtain ⟨z, hz, hk⟩ := fnd_at hf
    by_cases ht : z.told = true ∨ zB6 z.req = zB6 r
    · rw [zP3 hf hz ht]
      exact h
    · rw [zK7 hf hz ht]
      refine ⟨?_, ?_, by simpa using h.len⟩
      · have := keys_set (y := { z with told := true }) hz rfl
        rw [this]
        exact h.dup
      · intro y hy
        rcases List.mem_or_eq_of_mem_set hy with hy | rfl
        · exact h.ok y hy
        · exact h.ok z (List.mem_of_getElem? hz)
theorem OkL.cut {ls : List PSn} (h : OkL ls) (s : Int) : OkL (cutL ls s) :=
  ⟨by unfold cutL zDi; exact (List.filter_sublist.map _).nodup h.dup, fun z hz => h.ok z (List.mem_filter.1 hz).1, Nat.le_trans (List.length_filter_le _ _) h.len⟩
theorem zGr {ls : List PSn} {k x y s : Int} {r : zB3} {vs : List zAy} {i : Nat} {v : zAy} (h : vs[i]? = some v) : noteV ls k x y s r (vs.take (i + 1)) = zPg k x y s r (noteV ls k x y s r (vs.take i)) v := by
  unfold noteV
  rw [List.take_add_one, h, List.foldl_append]
  rfl
theorem stp_no {k x y s : Int} {r : zB3} {st : List PSn × List PMsg} {v : zAy} (h : zMn k x y s r v = false) : zPg k x y s r st v = st := by unfold zPg; simp [h]
theorem zV2 {k x y s : Int} {r : zB3} {st : List PSn × List PMsg} {v : zAy} (h : zMn k x y s r v = true) : zPg k x y s r st v = ((zBw st.1 (k, x, y, s, v.1) r v.2).1, st.2 ++ (zBw st.1 (k, x, y, s, v.1) r v.2).2) := by unfold zPg; simp [h]
theorem meet_one (ls : List PSn) (q : PK) (r : zB3) (g : List Int) : (zBw ls q r g).2.length ≤ 1 := by
  unfold zBw
  split
  · simp
  · split
    · simp
    · split <;> simp
theorem OkL.stp {st : List PSn × List PMsg} (h : OkL st.1) (k x y s : Int) {r : zB3} (hr : tot [r.2.2.1, r.2.2.2] ≤ 2000000) {v : zAy} (hg : szT v.2) : OkL (zPg k x y s r st v).1 := by
  unfold zPg
  split
  · exact h.meet _ hr hg
  · exact h
theorem stp_len (k x y s : Int) (r : zB3) (st : List PSn × List PMsg) (v : zAy) : (zPg k x y s r st v).2.length ≤ st.2.length + 1 := by
  unfold zPg
  split
  · have := meet_one st.1 (k, x, y, s, v.1) r v.2
    simp
    omega
  · omega
theorem zK0 {k x y s : Int} {r : zB3} (hr : tot [r.2.2.1, r.2.2.2] ≤ 2000000) : ∀ (vs : List zAy) (st : List PSn × List PMsg), OkL st.1 → (∀ v ∈ vs, szT v.2) → OkL (vs.foldl (zPg k x y s r) st).1 ∧ (vs.foldl (zPg k x y s r) st).2.length ≤ st.2.length + vs.length
  | [], st, h, _ => ⟨h, by simp⟩
  | v :: vs, st, h, hv => by
    obtain ⟨h1, h2⟩ := zK0 hr vs (zPg k x y s r st v) (h.stp k x y s hr (hv v (by simp))) (fun u hu => hv u (by simp [hu]))
    have := stp_len k x y s r st v
    refine ⟨h1, ?_⟩
    simp only [List.foldl_cons, List.length_cons]
    omega
theorem OkL.noteV {ls : List PSn} (h : OkL ls) (k x y s : Int) {r : zB3} (hr : tot [r.2.2.1, r.2.2.2] ≤ 2000000) {vs : List zAy} (hv : ∀ v ∈ vs, szT v.2) : OkL (noteV ls k x y s r vs).1 := (zK0 hr vs (ls, []) h hv).1
theorem zUz {ls : List PSn} (h : OkL ls) (k x y s : Int) {r : zB3} (hr : tot [r.2.2.1, r.2.2.2] ≤ 2000000) {vs : List zAy} (hv : ∀ v ∈ vs, szT v.2) : (Go.Proofs.YtgjepofinpmcpaaGreatDoor.noteV ls k x y s r vs).2.length ≤ vs.length := by
  have := (zK0 (k := k) (x := x) (y := y) (s := s) hr vs (ls, []) h hv).2
  simpa [Go.Proofs.YtgjepofinpmcpaaGreatDoor.noteV] using this
theorem zCw {r : zB3} (h1 : Byt r.2.2.1) (h2 : Byt r.2.2.2) (hr : tot [r.2.2.1, r.2.2.2] ≤ 2000000) : Byt (zB6 r) :=
  Byt.app (Byt.app (zOb _) (zOb _)) (zHy (ll := [r.2.2.1, r.2.2.2]) (fun l hl => by
    simp only [List.mem_cons, List.not_mem_nil, or_false] at hl
    rcases hl with rfl | rfl
    · exact h1
    · exact h2) (by omega))
theorem zDw {r : zB3} (hr : tot [r.2.2.1, r.2.2.2] ≤ 2000000) : (zB6 r).length ≤ 3000000 := by
  unfold zB6
  rw [List.length_append, List.length_append, zC5, zC5]
  have h1 := zB7 r.2.2.1.length
  have h2 := zB7 r.2.2.2.length
  simp only [tot] at hr
  simp only [zB8, List.length_append, List.length_nil]
  omega
end
section
namespace Bb
open Go.RowKit Oct Bal
theorem right_any (w : World) (n : Int) : Calls Tryz.prog 18 #[.int .i64 n] w fun e w' => e = .returned (.bool (rgt n)) ∧ w' = w := by
  by_cases h0 : n < 4
  · rw [zT7 (by rw [zK4]; omega)]
    go_enter Tryz.func18, Tryz.ntmps18
    go_wp2_with fail
    go_ret
    exact ⟨rfl, rfl⟩
  by_cases h1 : 16 < n
  · rw [zT7 (by rw [zK4]; omega)]
    go_enter Tryz.func18, Tryz.ntmps18
    go_wp2_with fail
    go_ret
    exact ⟨rfl, rfl⟩
  · have h : n = 4 ∨ n = 5 ∨ n = 6 ∨ n = 7 ∨ n = 8 ∨ n = 9 ∨ n = 10 ∨ n = 11 ∨ n = 12 ∨ n = 13 ∨ n = 14 ∨ n = 15 ∨ n = 16 := by omega
    rcases h with rfl | rfl | rfl | rfl | rfl | rfl | rfl | rfl | rfl | rfl | rfl | rfl | rfl
    all_goals
      go_enter Tryz.func18, Tryz.ntmps18
      go_wp2_with fail
      go_ret
      exact ⟨rfl, rfl⟩
end Bb
end
section
open Go.RowKit Oct
theorem zP2 {x : zAy} (h : bV x ≤ 2000000) : szV x := by
  simp only [bV, bT] at h
  show szT x.2
  unfold szT
  omega
theorem zGu {α : Type} {b : Nat} {p : α → Prop} {f : α → Nat} (hf : ∀ y, 1 ≤ f y) {ys : List α} (hb : b ≤ 1000) (h : bL f ys ≤ 2000000) (hp : ∀ y, f y ≤ 2000000 → p y) : szL b p ys := by
  simp only [bL] at h
  have h1 := zIs hf ys
  have h2 : ys.length * b ≤ 2000000 * 1000 := Nat.mul_le_mul (by omega) hb
  exact ⟨by omega, fun y hy => hp y (by have := zE4 (f := f) hy; omega)⟩
theorem zPo {x : zB3} (h : bQ x ≤ 2000000) : szQ x := by
  simp only [bQ, bT] at h
  exact ⟨by unfold szT; omega, by unfold szT; omega⟩
theorem szP_bM {x : zCo} (h : bP x ≤ 2000000) : szP x := by
  simp only [bP] at h
  exact ⟨zPo (by omega), zGu (f := bV) (fun y => by simp only [bV]; omega) (by decide) (by omega) fun y hy => zP2 hy⟩
theorem szR_bM {x : zF8} (h : bR x ≤ 2000000) : szR x := by
  simp only [bR] at h
  refine ⟨?_, zGu (f := bV) (fun y => by simp only [bV]; omega) (by decide) (by omega) fun y hy => zP2 hy, zGu (f := bP) (fun y => by simp only [bP]; omega) (by decide) (by omega) fun y hy => szP_bM hy, ?_⟩
  · simp only [bT] at h; unfold szT; omega
  · simp only [bT] at h; unfold szT; omega
theorem szM_bM {m : PMsg} (h : bM m ≤ 1100000) : szM m := by
  simp only [bM] at h
  exact ⟨zPo (by omega), zPo (by omega), by simp only [bT] at h; unfold szT; omega, by simp only [bT] at h; unfold szT; omega,
    zGu (f := bV) (fun y => by simp only [bV]; omega) (by decide) (by omega) fun y hy => zP2 hy, zGu (f := bV) (fun y => by simp only [bV]; omega) (by decide) (by omega) fun y hy => zP2 hy,
    zGu (f := fun _ => 1) (fun _ => by omega) (by decide) (by omega) fun _ _ => trivial, zGu (f := bQ) (fun y => by simp only [bQ]; omega) (by decide) (by omega) fun y hy => zPo hy,
    zGu (f := bR) (fun y => by simp only [bR]; omega) (by decide) (by omega) fun y hy => szR_bM hy⟩
end
end Go.Proofs.YtgjepofinpmcpaaGreatDoor
