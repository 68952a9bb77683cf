/- The document's own answer for layer 3: what is signed, signatures, digests. -/
import Derived.Test.YtgbfmccecnfooaaGreatDoorCRBI
import Derived.Test.YtgbfmccecnfooaaGreatDoorCRAR
import Derived.Test.YtgbfmccecnfooaaGreatDoorCRAX
namespace Go.Proofs.YtgbfmccecnfooaaGreatDoor
section
open Go.RowKit Oct Sha
theorem refBlock_lit (w : World) (s : St) (v : Value) (p : List Int) (F : St) (hF : blk s p = F) (hrd : Rd w v p) (hp : p.length = 64) :
    Calls Tryz.prog 169 #[.agg #[.int .u32 (wi s.a), .int .u32 (wi s.b), .int .u32 (wi s.c), .int .u32 (wi s.d), .int .u32 (wi s.e), .int .u32 (wi s.f), .int .u32 (wi s.g), .int .u32 (wi s.h)], v] w
      fun e w' => e = .returned (.agg #[.int .u32 (wi F.a), .int .u32 (wi F.b), .int .u32 (wi F.c), .int .u32 (wi F.d), .int .u32 (wi F.e), .int .u32 (wi F.f), .int .u32 (wi F.g), .int .u32 (wi F.h)]) ∧ Below w.heap.size w w' := by
  subst hF
  exact refBlock_any w s v p hrd hp
theorem run_cut_lh (pb off len cap i : Nat) (hi : i + 64 ≤ len) (hc : len ≤ cap) (u : World) : (Instr.slice 24 (.slice (some ⟨pb, off, none⟩) len cap) (some (.int .i64 (i : Int))) (some (.int .i64 ((i : Int) + 64))) none).run Tryz.prog u = .ok (.slice (some ⟨pb, off + i, none⟩) 64 (cap - i)) u := by
  have ht : Tryz.prog.underlying 24 = some (.slice (Tryz.prog.elem 24)) := by kernel_rfl
  have hs : (sizeOf (Tryz.prog.elem 24)).run Tryz.prog u = .ok 1 u := by
    rw [show Tryz.prog.elem 24 = 5 by kernel_rfl]
    obtain ⟨i0, hi, hz0, hz1, hz2⟩ := info_parts Tryz.info5
    simp [sizeOf, typeInfo, hi, hz1]
  rw [run_slice_lh u 24 (some ⟨pb, off, none⟩) len cap ht .i64 .i64 i ((i : Int) + 64) (by omega) (by omega) (by omega), hs]
  simp only [Result.andThen, sliced, Int.toNat_natCast, Nat.mul_one, Option.map_some, Addr.add_mid]
  rw [if_neg (by omega), show ((i : Int) + 64).toNat - i = 64 by omega]
theorem set8 {w2 : World} {b : Nat} {t : TypeId} {s : St} (F : St) (h : Row w2 b t s.vs) :
    Row ((((((((w2.setCell ⟨b, 0, none⟩ (.int .u32 (wi F.a))).setCell ⟨b, 1, none⟩ (.int .u32 (wi F.b))).setCell ⟨b, 2, none⟩ (.int .u32 (wi F.c))).setCell ⟨b, 3, none⟩ (.int .u32 (wi F.d))).setCell ⟨b, 4, none⟩ (.int .u32 (wi F.e))).setCell ⟨b, 5, none⟩ (.int .u32 (wi F.f))).setCell ⟨b, 6, none⟩ (.int .u32 (wi F.g))).setCell ⟨b, 7, none⟩ (.int .u32 (wi F.h))) b t F.vs ∧
    w2.grownBy ((((((((w2.setCell ⟨b, 0, none⟩ (.int .u32 (wi F.a))).setCell ⟨b, 1, none⟩ (.int .u32 (wi F.b))).setCell ⟨b, 2, none⟩ (.int .u32 (wi F.c))).setCell ⟨b, 3, none⟩ (.int .u32 (wi F.d))).setCell ⟨b, 4, none⟩ (.int .u32 (wi F.e))).setCell ⟨b, 5, none⟩ (.int .u32 (wi F.f))).setCell ⟨b, 6, none⟩ (.int .u32 (wi F.g))).setCell ⟨b, 7, none⟩ (.int .u32 (wi F.h))) (some b) := by
  refine ⟨(((((((h.set 0 (.int .u32 (wi F.a))).set 1 (.int .u32 (wi F.b))).set 2 (.int .u32 (wi F.c))).set 3 (.int .u32 (wi F.d))).set 4 (.int .u32 (wi F.e))).set 5 (.int .u32 (wi F.f))).set 6 (.int .u32 (wi F.g))).set 7 (.int .u32 (wi F.h)), ?_⟩
  have g0 := grown_set w2 b 0 (.int .u32 (wi F.a))
  have g1 := grown_trans g0 (grown_set _ b 1 (.int .u32 (wi F.b))) (.inl rfl)
  have g2 := grown_trans g1 (grown_set _ b 2 (.int .u32 (wi F.c))) (.inl rfl)
  have g3 := grown_trans g2 (grown_set _ b 3 (.int .u32 (wi F.d))) (.inl rfl)
  have g4 := grown_trans g3 (grown_set _ b 4 (.int .u32 (wi F.e))) (.inl rfl)
  have g5 := grown_trans g4 (grown_set _ b 5 (.int .u32 (wi F.f))) (.inl rfl)
  have g6 := grown_trans g5 (grown_set _ b 6 (.int .u32 (wi F.g))) (.inl rfl)
  exact grown_trans g6 (grown_set _ b 7 (.int .u32 (wi F.h))) (.inl rfl)
theorem byte4_at (x : BitVec 32) (m : Nat) (hm : m < 4) (sh : Nat) (hs : sh = 24 - 8 * m) : wi x / 2 ^ sh % 256 = (be4 x).getD m 0 := by
  subst hs
  rw [be4_eq]
  rcases (by omega : m = 0 ∨ m = 1 ∨ m = 2 ∨ m = 3) with rfl | rfl | rfl | rfl
  all_goals simp [List.getD]
theorem be4_len (x : BitVec 32) : (be4 x).length = 4 := rfl
set_option maxRecDepth 10000 in
set_option maxHeartbeats 2000000 in
theorem refSum_any (w : World) (v : Value) (l : List Int) (hrd : Rd w v l) (hlen : l.length ≤ 140737488351232) :
    Calls Tryz.prog 135 #[v] w fun e w' => ∃ r, e = .returned r ∧ Own w' 5 r (bc (shaL l)) ∧ Fr w.heap.size r ∧ Below w.heap.size w w' := by
  have le := Nat.le_refl w.heap.size
  obtain ⟨av, vcap, rfl, hvcap⟩ := hrd.form
  go_enter Tryz.func135, Tryz.ntmps135
  go_wp2_with fail
  have b0 := below_alloc w (.cells st0.vs.toArray 192)
  have hS0 : Row (w.alloc (.cells st0.vs.toArray 192)) w.heap.size 192 st0.vs := Row.new w 192 st0.vs
  refine (pad_any _ _ l (hrd.below b0) hlen).mono ?_
  rintro e w1 ⟨mv, rfl, hm1, hf1, hb1⟩
  have hS1 := hS0.below hb1
  have hB1 := below_and b0 le hb1
  have hplen := pad_len l
  have hbyt : Byt (pad l) := byt_app hrd.1 (fun x hx => by
    rcases List.mem_cons.1 hx with rfl | hx
    · decide
    · exact byt_app (byt_zero _) (byt_be8 _) x hx)
  obtain ⟨M, hM⟩ : ∃ M, M = pad l := ⟨_, rfl⟩
  rw [← hM] at hm1 hplen hbyt
  obtain ⟨q, hq⟩ : ∃ q, q = (l.length + 8) / 64 + 1 := ⟨_, rfl⟩
  rw [← hq] at hplen
  have hq0 : 0 < q := by omega
  have hq1 : q ≤ 10000000000000 := by omega
  have HFI := (show Hid ((blks M q).out = shaL l) by
    show (blks M q).out = _
    rw [shaL, ← hM, hplen, Nat.mul_div_cancel_left _ (by decide)])
  obtain ⟨mb, moff, mcap, rfl, hmc1, hmc2, hmlt, hmcell⟩ := (hm1.rd hbyt).at (by omega)
  rw [hplen] at hmc1 ⊢
  have hmb : w.heap.size + 1 ≤ mb := by
    have := hf1 mb rfl
    simpa using this
  have HC := (show Hid (∀ j, j < M.length → w1.cell? ⟨mb, moff + j, none⟩ = some (.int .u8 (M.getD j 0))) from hmcell)
  have HPL := (show Hid (M.length = 64 * q) from hplen)
  clear hM hm1 hf1 hb1 hS0 b0 hrd hlen hmcell hq hplen
  obtain ⟨T, hT⟩ : ∃ T, T = 64 * q := ⟨_, rfl⟩
  rw [← hT] at hmc1 HPL ⊢
  have hT1 : T ≤ 64 * q := by omega
  have hT2 : 64 * q ≤ T := by omega
  clear hT
  go_wp2_with fail
  go_loopw [5] (fun i wr => ∃ k : Nat, k ≤ q ∧ i = .int .i64 ((64 * k : Nat) : Int) ∧ Row wr w.heap.size 192 (blks M k).vs ∧ w1.grownBy wr (some w.heap.size)) (fun i _ => T - (intOf i).toNat)
  case atStart => exact ⟨0, by omega, rfl, hS1, grown_refl _ _⟩
  case round =>
    obtain ⟨k, hk, rfl, hrk, hgk⟩ := hrel
    obtain ⟨I, hI⟩ : ∃ I, I = 64 * k := ⟨_, rfl⟩
    rw [← hI]
    have hI1 : I ≤ 64 * k := by omega
    have hI2 : 64 * k ≤ I := by omega
    by_cases hkq : k < q
    · obtain ⟨s, hs⟩ : ∃ s, s = blks M k := ⟨_, rfl⟩
      rw [← hs] at hrk
      have HF := (show Hid (blk s ((M.drop I).take 64) = blks M (k + 1)) by rw [hs, hI]; rfl)
      have hlt : (I : Int) < (T : Int) := by omega
      have hsl : ∀ u : World, (Instr.slice 24 (.slice (some ⟨mb, moff, none⟩) T mcap) (some (.int .i64 (I : Int))) (some (.int .i64 ((I : Int) + 64))) none).run Tryz.prog u = .ok (.slice (some ⟨mb, moff + I, none⟩) 64 (mcap - I)) u := run_cut_lh mb moff T mcap I (by omega) hmc1
      have hwr : IntKind.i64.wrap ((I : Int) + 64) = (I : Int) + 64 := by rw [IntKind.wrap_i64]; unfold maxLen at hmc2; omega
      have hrp : Rd wr (.slice (some ⟨mb, moff + I, none⟩) 64 (mcap - I)) ((M.drop I).take 64) :=
        Rd.part hbyt (fun j hj => (cell_grown hgk hmlt (by omega) _).trans (HC.out j hj)) I 64 (by rw [HPL.out]; omega) (mcap - I) (by omega) (by omega)
      have hpl : ((M.drop I).take 64).length = 64 := by rw [List.length_take, List.length_drop, HPL.out]; omega
      have HPL2 := (show Hid (((M.drop I).take 64).length = 64) from hpl)
      have c0 : wr.cell? ⟨w.heap.size, 0, none⟩ = some (.int .u32 (wi s.a)) := hrk.cell rfl
      have c1 : wr.cell? ⟨w.heap.size, 1, none⟩ = some (.int .u32 (wi s.b)) := hrk.cell rfl
      have c2 : wr.cell? ⟨w.heap.size, 2, none⟩ = some (.int .u32 (wi s.c)) := hrk.cell rfl
      have c3 : wr.cell? ⟨w.heap.size, 3, none⟩ = some (.int .u32 (wi s.d)) := hrk.cell rfl
      have c4 : wr.cell? ⟨w.heap.size, 4, none⟩ = some (.int .u32 (wi s.e)) := hrk.cell rfl
      have c5 : wr.cell? ⟨w.heap.size, 5, none⟩ = some (.int .u32 (wi s.f)) := hrk.cell rfl
      have c6 : wr.cell? ⟨w.heap.size, 6, none⟩ = some (.int .u32 (wi s.g)) := hrk.cell rfl
      have c7 : wr.cell? ⟨w.heap.size, 7, none⟩ = some (.int .u32 (wi s.h)) := hrk.cell rfl
      obtain ⟨F, hF⟩ : ∃ F, F = blks M (k + 1) := ⟨_, rfl⟩
      rw [← hF] at HF
      have HFF := (show Hid (F = blks M (k + 1)) from hF)
      clear hs hpl hF hI
      go_wp2_with fail
      go_region_with
        ((go_at_call 169; refine (refBlock_lit wr.drew s _ ((M.drop I).take 64) F HF.out hrp.drew HPL2.out).mono ?_; rintro e w2 ⟨rfl, hb2⟩; have hr2 : Row w2 w.heap.size 192 s.vs := hrk.drew.below hb2; have e0 : w2.cell? ⟨w.heap.size, 0, none⟩ = some (.int .u32 (wi s.a)) := hr2.cell rfl; have e1 : w2.cell? ⟨w.heap.size, 1, none⟩ = some (.int .u32 (wi s.b)) := hr2.cell rfl; have e2 : w2.cell? ⟨w.heap.size, 2, none⟩ = some (.int .u32 (wi s.c)) := hr2.cell rfl; have e3 : w2.cell? ⟨w.heap.size, 3, none⟩ = some (.int .u32 (wi s.d)) := hr2.cell rfl; have e4 : w2.cell? ⟨w.heap.size, 4, none⟩ = some (.int .u32 (wi s.e)) := hr2.cell rfl; have e5 : w2.cell? ⟨w.heap.size, 5, none⟩ = some (.int .u32 (wi s.f)) := hr2.cell rfl; have e6 : w2.cell? ⟨w.heap.size, 6, none⟩ = some (.int .u32 (wi s.g)) := hr2.cell rfl; have e7 : w2.cell? ⟨w.heap.size, 7, none⟩ = some (.int .u32 (wi s.h)) := hr2.cell rfl; have fz : ∀ j, w2.frozen? ⟨w.heap.size, j, none⟩ = false := hr2.frozen))
      obtain ⟨hr3, hg3⟩ := set8 F hr2
      have g := grown_trans hgk (grown_drew (grown_of_below hb2 (some w.heap.size))) (.inl rfl)
      have g7 := grown_trans g hg3 (.inl rfl)
      generalize ((((((((w2.setCell ⟨w.heap.size, 0, none⟩ (.int .u32 (wi F.a))).setCell ⟨w.heap.size, 1, none⟩ (.int .u32 (wi F.b))).setCell ⟨w.heap.size, 2, none⟩ (.int .u32 (wi F.c))).setCell ⟨w.heap.size, 3, none⟩ (.int .u32 (wi F.d))).setCell ⟨w.heap.size, 4, none⟩ (.int .u32 (wi F.e))).setCell ⟨w.heap.size, 5, none⟩ (.int .u32 (wi F.f))).setCell ⟨w.heap.size, 6, none⟩ (.int .u32 (wi F.g))).setCell ⟨w.heap.size, 7, none⟩ (.int .u32 (wi F.h))) = w3 at g7 hr3 hg3 ⊢
      have HR4 := (show Hid (Row w3 w.heap.size 192 (blks M (k + 1)).vs) by show Row _ _ _ _; rw [← HFF.out]; exact hr3)
      clear hr3 g hg3 hr2 hb2 e0 e1 e2 e3 e4 e5 e6 e7 fz c0 c1 c2 c3 c4 c5 c6 c7 hgk hrk hrp hsl
      go_wp2_with fail
      go_roundw
      case rel => exact ⟨k + 1, by omega, by congr 1; omega, HR4, g7⟩
      case measure => simp [intOf]; omega
    · have hge : ¬ (I : Int) < (T : Int) := by omega
      obtain ⟨F, hF⟩ : ∃ F, F = blks M q := ⟨_, rfl⟩
      rw [show k = q by omega, ← hF] at hrk
      have HO := (show Hid (F.out = shaL l) by rw [hF]; exact HFI.out)
      have hbk : Below w.heap.size w wr := hB1.trans (grown_below hgk hB1.size (fun j hj => by cases hj; exact Nat.le_refl _))
      have hal := below_alloc wr (.cells #[] 5)
      have hrk' := hrk.below hal
      have c0 : (wr.alloc (.cells #[] 5)).cell? ⟨w.heap.size, 0, none⟩ = some (.int .u32 (wi F.a)) := hrk'.cell rfl
      have c1 : (wr.alloc (.cells #[] 5)).cell? ⟨w.heap.size, 1, none⟩ = some (.int .u32 (wi F.b)) := hrk'.cell rfl
      have c2 : (wr.alloc (.cells #[] 5)).cell? ⟨w.heap.size, 2, none⟩ = some (.int .u32 (wi F.c)) := hrk'.cell rfl
      have c3 : (wr.alloc (.cells #[] 5)).cell? ⟨w.heap.size, 3, none⟩ = some (.int .u32 (wi F.d)) := hrk'.cell rfl
      have c4 : (wr.alloc (.cells #[] 5)).cell? ⟨w.heap.size, 4, none⟩ = some (.int .u32 (wi F.e)) := hrk'.cell rfl
      have c5 : (wr.alloc (.cells #[] 5)).cell? ⟨w.heap.size, 5, none⟩ = some (.int .u32 (wi F.f)) := hrk'.cell rfl
      have c6 : (wr.alloc (.cells #[] 5)).cell? ⟨w.heap.size, 6, none⟩ = some (.int .u32 (wi F.g)) := hrk'.cell rfl
      have c7 : (wr.alloc (.cells #[] 5)).cell? ⟨w.heap.size, 7, none⟩ = some (.int .u32 (wi F.h)) := hrk'.cell rfl
      have how := own_zero wr 5
      have hfw : Fr w.heap.size (.slice (some ⟨wr.heap.size, 0, none⟩) 0 0) := fr_at _ _ _ _ hbk.size
      have hBw := below_and hbk le hal
      clear hrk hrk' hal hF hI hgk hbk HFI HC HPL hS1 hB1 hbyt hmc1 hmc2
      go_wp2_with fail
      go_loopw [6, 28] (fun o i wr => ∃ j : Nat, j ≤ 8 ∧ i = .int .i64 j ∧ Own wr 5 o (bc (F.out.take (4 * j))) ∧ Fr w.heap.size o ∧ Below w.heap.size w wr) (fun _ i _ => 8 - (intOf i).toNat)
      case atStart => exact ⟨0, by omega, rfl, how, hfw, hBw⟩
      case round =>
        clear how hfw hBw c0 c1 c2 c3 c4 c5 c6 c7
        obtain ⟨j, hj, rfl, hoj, hfj, hbj⟩ := hrel
        by_cases hj8 : j < 8
        · have hix : ∀ u : World, (Instr.index 192 (.agg #[.int .u32 (wi F.a), .int .u32 (wi F.b), .int .u32 (wi F.c), .int .u32 (wi F.d), .int .u32 (wi F.e), .int .u32 (wi F.f), .int .u32 (wi F.g), .int .u32 (wi F.h)]) (.int .i64 (j : Int))).run Tryz.prog u = .ok (.int .u32 (wi (F.ws.getD j 0))) u := run_ixv Tryz.und35 Tryz.info34 Tryz.underlying143 F.ws j hj8 rfl
          obtain ⟨x, hx⟩ : ∃ x, x = F.ws.getD j 0 := ⟨_, rfl⟩
          rw [← hx] at hix
          obtain ⟨D, hD⟩ : ∃ D, D = F.out.take (4 * j) := ⟨_, rfl⟩
          have HX := (show Hid (F.out.take (4 * (j + 1)) = D ++ be4 x) by rw [hx, hD]; exact out_take F j hj8)
          have HDL := (show Hid (D.length ≤ 32) by rw [hD]; exact out_take_len F j hj)
          rw [← hD] at hoj
          have hji : (j : Int) < 8 := by omega
          clear hx hD
          go_wp2_with fail
          go_loopw [6, 9] (fun o i wr => ∃ m : Nat, m ≤ 4 ∧ i = .int .i64 (3 - (m : Int)) ∧ Own wr 5 o (bc (D ++ (be4 x).take m)) ∧ Fr w.heap.size o ∧ Below w.heap.size w wr) (fun _ i _ => (intOf i + 1).toNat)
          case atStart => exact ⟨0, by omega, rfl, by rw [List.take_zero, List.append_nil]; exact hoj, hfj, hbj⟩
          case round =>
            clear hoj hfj hbj
            obtain ⟨m, hm, rfl, hom, hfm, hbm⟩ := hrel
            by_cases hm4 : m < 4
            · obtain ⟨sh, hsh⟩ : ∃ sh : Nat, (8 : Int) * (3 - (m : Int)) = sh := ⟨24 - 8 * m, by omega⟩
              have HB := (show Hid (wi x / 2 ^ sh % 256 = (be4 x).getD m 0) from byte4_at x m hm4 sh (by omega))
              have hge3 : (0 : Int) ≤ 3 - (m : Int) := by omega
              have hsh0 : (0 : Int) ≤ (sh : Int) := by omega
              have HX2 := (show Hid (D ++ (be4 x).take (m + 1) = (D ++ (be4 x).take m) ++ [(be4 x).getD m 0]) by
                show D ++ (be4 x).take (m + 1) = _
                have hb : m < (be4 x).length := by rw [be4_len]; exact hm4
                rw [List.append_assoc, List.take_add_one, List.getElem?_eq_getElem hb]
                simp [List.getD, List.getElem?_eq_getElem hb])
              have HT := (show Hid ((D ++ (be4 x).take m).length ≤ 40) by
                show (D ++ (be4 x).take m).length ≤ _
                rw [List.length_append, List.length_take, be4_len]
                have := HDL.out
                omega)
              go_wp2_with (at_builtin; refine app_bytes rfl _ _ rfl _ (D ++ (be4 x).take m) rfl (World.ownsRow.alloc hom _) _ [wi x / 2 ^ sh % 256] rfl (rdv_one wr _ _) (by have := HT.out; simp only [List.length_cons, List.length_nil]; omega) ?_; intro o4 w4 happ4)
              have hp4 := happ4.pre (below_alloc wr _)
              have HO4 := (show Hid (Own w4 5 o4 (bc (D ++ (be4 x).take (m + 1)))) by
                show Own _ _ _ _
                rw [HX2.out, ← HB.out]
                exact hp4.own)
              have hf4 := hp4.fr hfm hbm.size
              have hb4 := hbm.trans (hp4.below hfm hbm.size)
              clear hp4 happ4 hom hfm hbm
              go_roundw
              case rel => exact ⟨m + 1, by omega, by go_num, HO4, hf4, hb4⟩
              case measure => simp [intOf]; omega
            · have hlt3 : ¬ (0 : Int) ≤ 3 - (m : Int) := by omega
              have HOm := (show Hid (Own wr 5 u6 (bc (F.out.take (4 * (j + 1))))) by
                show Own _ _ _ _
                rw [HX.out]
                rwa [List.take_of_length_le (by rw [be4_len]; omega)] at hom)
              clear hom
              go_wp2_with fail
              go_roundw
              case rel => exact ⟨j + 1, by omega, by go_num, HOm, hfm, hbm⟩
              case measure => simp [intOf]; omega
        · have hoj' : Own wr 5 u6 (bc (shaL l)) := by
            rwa [show j = 8 by omega, List.take_of_length_le (by rw [out_len]; decide), HO.out] at hoj
          go_wp2_with fail
          go_ret
          exact ⟨_, rfl, hoj', hfj, hbj⟩
end
section
open Go.RowKit Oct Sha
theorem own_els (w : World) (xs : List Value) (e : TypeId) (h : xs.length ≤ 1000) : Own (w.alloc (.cells xs.toArray e)) e (.slice (some ⟨w.heap.size, 0, none⟩) xs.length xs.length) xs :=
  World.ownsRow_lit (base := 0) (size := 1) w xs.toArray xs.length (Nat.zero_le _) (by unfold maxLen; omega) (by simp)
set_option maxHeartbeats 400000 in
/-- catenaryref03.Text. -/
theorem refTextK_any (w : World) (k : Int) (s : ByteArray) (pv : Value) (ll : List (List Int)) (hp : Rdl w pv ll) (hs : s.size ≤ 4000000) (ht : tot ll ≤ 4000000) :
    Calls Tryz.prog 95 #[.int .i64 k, .string s, pv] w fun e w' => ∃ v', e = .returned v' ∧ Own w' 5 v' (bc (textL k (sL s) ll)) ∧ Fr w.heap.size v' ∧ Below w.heap.size w w' := by
  by_cases hk0 : k < 0
  · rw [textL_no _ _ (.inl hk0)]
    go_enter Tryz.func95, Tryz.ntmps95
    go_wp2_with fail
    go_ret
    exact ⟨_, rfl, Own.nil _ _, Fr.nil _, Below.refl _ _⟩
  by_cases hk1 : 127 < k
  · rw [textL_no _ _ (.inr hk1)]
    go_enter Tryz.func95, Tryz.ntmps95
    go_wp2_with fail
    go_ret
    exact ⟨_, rfl, Own.nil _ _, Fr.nil _, Below.refl _ _⟩
  · have h0 : 0 ≤ k := by omega
    have h1 : k ≤ 127 := by omega
    rw [textL_yes _ _ h0 h1]
    have hI := refInt_any w k
    rw [errI_yes (by omega) (by omega), outI_yes (by omega) (by omega)] at hI
    have hcv := run_cvt
    have htt := tot_three k (sL s) ll
    rw [sL_len] at htt
    obtain ⟨vp, hvp, hap⟩ := hp
    have l1 := len_tot ll
    have l3 := Nat.le_of_eq hap.len
    have l5 : vp.length ≤ 10000000 := by omega
    clear l1 l3
    go_enter Tryz.func95, Tryz.ntmps95
    go_wp2_with fail
    refine hI.mono ?_
    rintro e w1 ⟨v1, rfl, hown, hfr, hb1⟩
    clear hI
    have r1 := hown.rd (enc_byt k h0 (by omega))
    obtain ⟨a1, c1, rfl, hc1⟩ := r1.form
    have q1 := rd_lit w1 signW 5 (4, 5) (byt_of (by decide)) (by decide) (by decide)
    have b1 := below_alloc w1 (.cells (bc signW).toArray 5 (4, 5))
    go_wp2_with (first
      | (refine wl_str (by rfl) _ (by rfl) s (by rfl) (by unfold maxLen; omega) ?_; intro v2 w2 hr2 hf2 hb2; obtain ⟨a2, c2, rfl, hc2⟩ := hr2.form; have B2 : Below w1.heap.size w1 w2 := below_and b1 (Nat.le_refl _) hb2; have b3 := below_alloc w2 (.cells [.slice (some ⟨w1.heap.size, 0, none⟩) 4 4, .slice a1 (enc k).length c1, .slice a2 (sL s).length c2].toArray 24); have B3 := below_and (below_and hb1 (Nat.le_refl _) B2) (Nat.le_refl _) b3)
      | (at_builtin; refine app_list rfl _ _ rfl _ [.slice (some ⟨w1.heap.size, 0, none⟩) 4 4, .slice a1 (enc k).length c1, .slice a2 (sL s).length c2] rfl (own_els w2 [.slice (some ⟨w1.heap.size, 0, none⟩) 4 4, .slice a1 (enc k).length c1, .slice a2 (sL s).length c2] 24 (by simp)) _ vp rfl (hvp.below B3) (rds_one hap) (by simp only [List.length_cons, List.length_nil]; omega) ?_; intro v5 w5 happ5))
    have q2 := q1.below hb2
    have r2 := r1.below B2
    have f3 : Fr w.heap.size (.slice (some ⟨w2.heap.size, 0, none⟩) 3 3) := fr_at _ _ _ _ (Nat.le_trans hb1.size B2.size)
    have b5 : Below w.heap.size w w5 := B3.trans (happ5.below f3 B3.size)
    have B35 : Below w2.heap.size w2 w5 := b3.trans (happ5.below (fr_at _ _ _ _ (Nat.le_refl _)) b3.size)
    refine (refPack_any w5 v5 ([signW, enc k, sL s] ++ ll) ⟨_, happ5.own.rdv, All2.app ⟨q2.below B35, r2.below B35, hr2.below B35, trivial⟩ (rds_below hap b5)⟩ (by omega)).mono ?_
    rintro e w6 ⟨v6, rfl, ho6, hf6, hb6⟩
    go_wp2_with fail
    go_ret
    exact ⟨_, rfl, ho6, hf6.mono b5.size, below_and b5 (Nat.le_refl _) hb6⟩
set_option maxHeartbeats 400000 in
/-- catenaryref03.Sign. -/
theorem refSign_any (w : World) (k : Int) (s : ByteArray) (pv : Value) (ll : List (List Int)) (hp : Rdl w pv ll) (hs : s.size ≤ 4000000) (ht : tot ll ≤ 4000000) :
    Calls Tryz.prog 98 #[.int .i64 k, .string s, pv] w fun e w' => ∃ v', e = .returned v' ∧ Own w' 5 v' (bc (signL k (sL s) ll)) ∧ Fr w.heap.size v' ∧ Below w.heap.size w w' := by
  have hbt := textL_byt k s ll hp.byts (by omega)
  have hX := refTextK_any w k s pv ll hp hs ht
  by_cases hk : k < 0 ∨ 127 < k
  · rw [signL_no _ _ hk]
    rw [textL_no _ _ hk] at hX
    clear hbt
    go_enter Tryz.func98, Tryz.ntmps98
    go_wp2_with fail
    refine hX.mono ?_
    rintro e w1 ⟨v1, rfl, hown, hfr, hb1⟩
    obtain ⟨a1, c1, rfl, hc1⟩ := hown.form
    clear hX
    go_wp2_with fail
    go_ret
    exact ⟨_, rfl, Own.nil _ _, Fr.nil _, hb1⟩
  · have h0 : 0 ≤ k := by omega
    have h1 : k ≤ 127 := by omega
    clear hk
    rw [signL_yes _ _ h0 h1]
    rw [textL_yes _ _ h0 h1] at hX hbt
    have hpos : 0 < (packL ([signW, enc k, sL s] ++ ll)).length := pack_pos _ _
    have hple := packL_len ([signW, enc k, sL s] ++ ll)
    have htt := tot_three k (sL s) ll
    rw [sL_len] at htt
    generalize packL ([signW, enc k, sL s] ++ ll) = X at hX hbt hpos hple ⊢
    have hne : ((X.length : Int) == 0) = false := by rw [beq_eq_false_iff_ne]; omega
    have hlen : X.length ≤ 1000000000 := by omega
    clear htt hple
    go_enter Tryz.func98, Tryz.ntmps98
    go_wp2_with fail
    refine hX.mono ?_
    rintro e w1 ⟨v1, rfl, hown, hfr, hb1⟩
    clear hX
    have r1 := hown.rd hbt
    obtain ⟨a1, c1, rfl, hc1⟩ := r1.form
    go_wp2_with fail
    refine (refSum_any w1 _ X r1 (by omega)).mono ?_
    rintro e w2 ⟨v2, rfl, ho2, hf2, hb2⟩
    go_wp2_with fail
    go_ret
    exact ⟨_, rfl, ho2, hf2.mono hb1.size, below_and hb1 (Nat.le_refl _) hb2⟩
set_option maxHeartbeats 400000 in
/-- catenaryref03.Verify. -/
theorem refVerify_any (w : World) (k : Int) (sv : Value) (sig : List Int) (s : ByteArray) (pv : Value) (ll : List (List Int)) (hsv : Rd w sv sig) (hp : Rdl w pv ll) (hs : s.size ≤ 4000000) (ht : tot ll ≤ 4000000) :
    Calls Tryz.prog 72 #[.int .i64 k, sv, .string s, pv] w fun e w' => e = .returned (.bool (verL k sig (sL s) ll)) ∧ Below w.heap.size w w' := by
  by_cases h0 : 0 ≤ k
  · by_cases h1 : k ≤ 127
    · rw [verL, if_pos ⟨h0, h1⟩]
      have hS := refSign_any w k s pv ll hp hs ht
      have hbt := signL_byt k (sL s) ll
      generalize signL k (sL s) ll = X at hS hbt ⊢
      obtain ⟨d, hd⟩ : ∃ d, d = decide (sig = X) := ⟨_, rfl⟩
      rw [← hd]
      have HD := (show Hid (d = decide (sig = X)) from hd)
      clear hd
      go_enter Tryz.func72, Tryz.ntmps72
      go_wp2_with fail
      refine hS.mono ?_
      rintro e w1 ⟨v1, rfl, ho1, hf1, hb1⟩
      clear hS
      have hE := same_any w1 sv v1 sig X (hsv.below hb1) (ho1.rd hbt)
      rw [← HD.out] at hE
      go_wp2_with fail
      refine hE.mono ?_
      rintro e w2 ⟨rfl, rfl⟩
      clear hE
      go_wp2_with fail
      go_ret
      exact ⟨rfl, hb1⟩
    · rw [verL, if_neg (by omega)]
      have hd1 : decide (k ≤ 127) = false := by simpa using h1
      go_enter Tryz.func72, Tryz.ntmps72
      go_wp2_with fail
      go_ret
      exact ⟨rfl, Below.refl _ _⟩
  · rw [verL, if_neg (by omega)]
    have hd0 : decide (0 ≤ k) = false := by simpa using h0
    go_enter Tryz.func72, Tryz.ntmps72
    go_wp2_with fail
    go_ret
    exact ⟨rfl, Below.refl _ _⟩
end
end Go.Proofs.YtgbfmccecnfooaaGreatDoor
