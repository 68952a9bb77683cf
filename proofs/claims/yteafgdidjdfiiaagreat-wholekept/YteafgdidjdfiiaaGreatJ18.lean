/- What the bound of an upto statement gives. -/
import Derived.Test.YteafgdidjdfiiaaGreatJ16
import Derived.Test.YteafgdidjdfiiaaGreatJ17
import Derived.Test.YteafgdidjdfiiaaGreatLc
import Derived.Sort.AtCall
import Derived.Deep.RegionHeld3
import Derived.Deep.RegionLaw
import Derived.Deep.Cut
import Derived.Deep.CutBlock
import Derived.Test.YteafgdidjdfiiaaGreatMem
import Derived.ProofKit
import Derived.OpenShut
import Derived.ShutString
import Derived.ChangeOld
import Derived.SizedLaws
import Derived.Test.YteafgdidjdfiiaaGreatRows
import Derived.Test.YteafgdidjdfiiaaGreatLst
section
set_option linter.unusedVariables false
set_option linter.unusedSimpArgs false
namespace Go.Proofs.YteafgdidjdfiiaaGreat
open Go.RowKit Oct Kvl

theorem two_newK (w4 : World) (T U : TypeId) (xs ys : List Value) : Row ((w4.alloc (.cells xs.toArray T)).alloc (.cells ys.toArray U)) w4.heap.size T xs ∧ Row ((w4.alloc (.cells xs.toArray T)).alloc (.cells ys.toArray U)) (w4.heap.size + 1) U ys := by
  refine ⟨rowA (Row.new w4 _ _) _, ?_⟩
  have := Row.new (w4.alloc (.cells xs.toArray T)) U ys
  simpa using this
theorem one_resK {n : Int} {v : Value} (h : v.oneCell' = true) : ∀ x ∈ [Value.int .i64 n, v], x.oneCell' = true := by
  intro x hx
  simp only [List.mem_cons, List.not_mem_nil, or_false] at hx
  rcases hx with rfl | rfl <;> first | rfl | assumption
theorem apply0 : (applyA z0A (0, 0, [], [])).1.1 = 1 := by decide
theorem Tryz.inf_appK : (Tryz.prog.info? 27).map (fun i => (i.zero, i.size, i.bytes)) = some (some (.agg #[.int .i64 0, .slice none 0 0, .slice none 0 0, .slice none 0 0]), 4, 80) := by kernel_rfl
/-- l[G:] of requests. -/
theorem rl_drop {w : World} {ao : Option Addr} {N cap : Nat} {ys : List PReq} (h : RL RReq 4 Any w (.slice ao N cap) ys) (G : Nat) (hG : G ≤ ys.length) : RL RReq 4 Any w (.slice (if cap = G then ao else ao.map (·.add (G * 4))) (N - G) (cap - G)) (ys.drop G) := by
  obtain ⟨rows, ⟨h0, h1⟩, h2⟩ := h
  have hlen := h2.len
  have hd : ∀ {xs : List (List Value)} {zs : List PReq}, All2 (RReq Any w) xs zs → ∀ k, All2 (RReq Any w) (xs.drop k) (zs.drop k) := by
    intro xs zs h k
    induction k generalizing xs zs with
    | zero => simpa using h
    | succ k ih =>
      match xs, zs, h with
      | [], [], _ => simp [All2]
      | x :: xs, z :: zs, h => exact ih h.2
  refine ⟨rows.drop G, ⟨fun r hr => h0 r (List.mem_of_mem_drop hr), ?_⟩, hd h2 G⟩
  rcases h1 with ⟨ao', cap', e, e2, h3⟩ | ⟨b, off, cap', e1, e2, e3, e4, e5, e6, e7⟩
  · injection e with q1 q2 q3
    subst e2
    left
    exact ⟨_, _, by rw [show N - G = 0 by omega], by simp, by omega⟩
  · injection e1 with q1 q2 q3
    subst q1 q3
    by_cases hg : G = rows.length
    · left
      exact ⟨_, _, by rw [show N - G = 0 by omega], by rw [hg]; simp, by omega⟩
    · right
      have hcg : cap ≠ G := by omega
      rw [if_neg hcg]
      refine ⟨b, off + G * 4, cap - G, ?_, by rw [List.length_drop]; omega, by omega, by rw [List.length_drop]; omega, e5, e6, fun i r hr => ?_⟩
      · rw [List.length_drop, q2]
        simp [Addr.add_mid]
      · have := e7 (G + i) r (by rw [← hr, List.getElem?_drop])
        rw [show off + G * 4 + i * 4 = off + (G + i) * 4 by rw [Nat.add_mul]; omega]
        exact this
theorem run_cutQ (ao : Option Addr) (n c m : Nat) (hm : m ≤ n) (u : World) : (Instr.slice 22 (.slice ao n c) (some (.int .i64 (m : Int))) none none).run Tryz.prog u = .ok (.slice (if c = m then ao else ao.map (·.add (m * 4))) (n - m) (c - m)) u := by
  have ht : Tryz.prog.underlying 22 = some (.slice (Tryz.prog.elem 22)) := by kernel_rfl
  rw [run_slice_l u 22 ao n c ht .i64 (m : Int) (by omega) (by omega)]
  have hs : (sizeOf (Tryz.prog.elem 22)).run Tryz.prog u = .ok 4 u := by
    rw [show Tryz.prog.elem 22 = 34 by kernel_rfl]
    have hi : (Tryz.prog.info? 34).map (·.size) = some 4 := by kernel_rfl
    obtain ⟨i0, h1, h2⟩ := Option.map_eq_some_iff.1 hi
    simp [sizeOf, typeInfo, h1, h2]
  rw [hs]
  simp only [Result.andThen, sliced, Int.toNat_natCast]
/-- The walk's frame behind the disk's writes. -/
def Yk (b bA : Nat) (vd : Value) : Nat → Prop := fun k => k ≠ b ∧ k ≠ bA ∧ vd.ownBlock ≠ some k

set_option maxRecDepth 10000 in
set_option maxHeartbeats 16000000 in
theorem keptT_any (w : World) (lv : Value) (ys : List PReq) (a t : Int) (h0 : RL RReq 4 Any w lv ys) (z0 : szL 64 szQ ys) (ha : a ≤ 9223372036854775807) :
    Calls Tryz.prog 3 #[lv, .int .i64 a, .int .i64 t] w fun e w' => e = .returned (.bool true) ∧ Below w.heap.size w w' := by
  have le := Nat.le_refl w.heap.size
  obtain ⟨al, cl, rfl, hcl⟩ := h0.form
  obtain ⟨N, hN⟩ : ∃ N, N = ys.length := ⟨_, rfl⟩
  rw [← hN] at h0 ⊢
  have HE := (show Hid (∀ (q : Nat) (y : PReq), ys[q]? = some y → ∃ bb off cap, Value.slice al N cl = .slice (some ⟨bb, off, none⟩) N cap ∧ ∃ o g, o.oneCell' = true ∧ g.oneCell' = true ∧ szQ y ∧ ∀ u, Below w.heap.size w u → u.rangeAt bb (off + q * 4) [.int .i64 y.1, .int .i64 y.2.1, o, g] ∧ RReq Any u [.int .i64 y.1, .int .i64 y.2.1, o, g] y) by
    rw [hN]; rw [hN] at h0
    intro q y hy
    have hl : 0 < ys.length := by have := (List.getElem?_eq_some_iff.1 hy).1; omega
    obtain ⟨bb, off, cap, e, hc, hm, _, hb, hx'⟩ := h0.at hl
    obtain ⟨r, _, hr, o, g, rfl, t1, t2⟩ := hx' q y hy
    exact ⟨bb, off, cap, e, o, g, t1.one, t2.one, z0.2 y (List.mem_of_getElem? hy), fun u hu => ⟨rangeAt_block hr (hu.block bb hb), mov_req _ _ _ _ _ _ ⟨o, g, rfl, t1, t2⟩ hu.size (fun k _ hlt => ⟨hu.block k hlt, trivial⟩)⟩⟩)
  have HZ := (show Hid (∀ y ∈ ys, szQ y) from z0.2)
  have HN := (show Hid (ys.length = N) from hN.symm)
  have HDR := (show Hid (∀ (G : Nat) (u : World), G ≤ N → Below w.heap.size w u → RL RReq 4 Any u (.slice (if cl = G then al else al.map (·.add (G * 4))) (N - G) (cl - G)) (ys.drop G)) from fun G u hG hu => (rl_drop h0 G (by omega)).mv mov_req hu.size (Mv.below hu))
  have HCUT := (show Hid (∀ (G : Nat), G ≤ N → ∀ u : World, (Instr.slice 22 (.slice al N cl) (some (.int .i64 (G : Int))) none none).run Tryz.prog u = .ok (.slice (if cl = G then al else al.map (·.add (G * 4))) (N - G) (cl - G)) u) from fun G hG u => run_cutQ al N cl G hG u)
  have hlm : (N : Int) ≤ 9223372036854775807 := by have := z0.1; omega
  obtain ⟨A, hA⟩ : ∃ A : Nat, (A : Int) = max 0 a := ⟨(max 0 a).toNat, Int.toNat_of_nonneg (by omega)⟩
  have HA := (show Hid ((A : Int) = max 0 a) from hA)
  have hAm : (A : Int) ≤ 9223372036854775807 := by omega
  have hR0 : RReq Any w [.int .i64 0, .int .i64 0, .slice none 0 0, .slice none 0 0] (0, 0, [], []) := ⟨_, _, rfl, RT.nil _ _, RT.nil _ _⟩
  have hA0 := apply_any w [.int .i64 0, .slice none 0 0, .slice none 0 0, .slice none 0 0] z0A (OApp.zero 0 w).app (rgt_szk rgt0k) [.int .i64 0, .int .i64 0, .slice none 0 0, .slice none 0 0] (0, 0, [], []) hR0 ⟨by simp [szT], by simp [szT]⟩
  have hq1 := apply0
  obtain ⟨Q, hQ⟩ : ∃ Q, Q = applyA z0A (0, 0, [], []) := ⟨_, rfl⟩
  rw [← hQ] at hA0 hq1
  obtain ⟨⟨s1, es, lss, ss⟩, ⟨cd, cv⟩, dn⟩ := Q
  obtain rfl : s1 = 1 := hq1
  have HA0 := (show Hid (∀ _ : Unit, Calls Tryz.prog 4 #[.agg #[.int .i64 0, .slice none 0 0, .slice none 0 0, .slice none 0 0], .agg #[.int .i64 0, .int .i64 0, .slice none 0 0, .slice none 0 0]] w (Rap w ((1, es, lss, ss), (cd, cv), dn))) from fun _ => hA0)
  clear hN h0 hcl z0 hA hR0 hA0 hQ
  go_enter Tryz.func3, Tryz.ntmps3
  go_upto_region 2 with (first
    | (go_at_call 4; refine (HA0.out ()).mono ?_; rintro e w1 ⟨row1, vv1, rfl, o1, t1, hb1⟩; obtain ⟨ae1, ce1, al1, cl1, an1, cn1, rfl⟩ := forms9k o1; obtain ⟨nA, nB⟩ := two_newK w1 27 30 [.int .i64 0, .slice none 0 0, .slice none 0 0, .slice none 0 0] [.int .i64 0, .slice none 0 0])
    | (refine wl_store rfl _ _ _ rfl w1.heap.size [.int .i64 1, .slice ae1 es.length ce1, .slice al1 lss.length cl1, .slice an1 ss.length cn1] rfl rfl _ _ nA rfl (by kernel_rfl) (onA4 rfl rfl rfl) ?_; intro w2 hr2 hg2; have nB2 := nB.grown hg2 (fun e => by injection e with e; omega))
    | (refine wl_store rfl _ _ _ rfl (w1.heap.size + 1) [.int .i64 cd, vv1] rfl rfl _ _ nB2 rfl (by kernel_rfl) (one_resK t1.one) ?_; intro w3 hr3 hg3))
  have b12 : Below w1.heap.size w1 w2 := (below_and (below_alloc w1 _) (Nat.le_refl _) (below_alloc _ _)).trans (grown_below hg2 (by simp; omega) (fun k hk => by cases hk; exact Nat.le_refl _))
  have b13 : Below w1.heap.size w1 w3 := b12.trans (grown_below hg3 b12.size (fun k hk => by cases hk; omega))
  have B3 := below_and hb1 le b13
  have c30 := (hr2.out.grown hg3 (by simp)).cell (j := 0) rfl
  clear b12 b13 hg2 hg3 hr2 hr3 nA nB nB2 o1 t1 hb1 HA0
  by_cases h60 : (60 : Int) < N
  · go_wp2_with fail
    go_ret
    exact ⟨rfl, B3⟩
  have h60' : decide ((60 : Int) < N) = false := decide_eq_false h60
  have HN60 := (show Hid (ys.length ≤ 60) by show _ ≤ _; have := HN.out; omega)
  have HSZ := (show Hid (∀ k, (packL ((encL ys).take k)).length ≤ 2000000 ∧ tot ((encL ys).take k) ≤ 2000000) from encL_sz ys HN60.out)
  go_upto_region 7 with (go_at_call 5; refine (newD_any w3 4194304).mono ?_; rintro e w4 ⟨b, rfl, hb, hd4, hb4⟩)
  rw [nw_whD] at hd4
  have B4 := below_and B3 le hb4
  have hbw : w.heap.size ≤ b := Nat.le_trans B3.size hb
  go_upto_region 10 with (go_at_call 6; refine (openW_any w4 b _ _ hd4).mono ?_; rintro e w5 ⟨v5, m5, o5, us5, rfl, hd5, hg5, hs5, hm5, _, ho5, he5, hf5, _⟩; rw [show opT (whD []) = (whD [], 0) by kernel_rfl] at hd5 hm5 ⊢; obtain ⟨g, rfl, hgw, hr5⟩ := hm5 rfl)
  have B5 : Below w.heap.size w w5 := B4.trans (hg5.below B4.size hbw (Fr.nil _))
  have hv5 : Fr w.heap.size v5 := Spt.frK hs5 (Fr.nil _) B4.size
  clear hm5 ho5 he5 hf5 hs5 hg5 hd4 hb4 B4 B3 c30 hb
  go_upto_region 11 with (go_at_call 7; refine (break_any w5 b _ _ a t hd5 ha).mono ?_; rintro e w6 ⟨rfl, hd6, hg6⟩)
  have hr6 := (Gr2.of (v := v5) hg6).lg hd5 hr5
  have B6 : Below w.heap.size w w6 := B5.trans (grown_below hg6 B5.size (fun k hk => by cases hk; exact hbw))
  have hd6' : Dsk w6 b v5 (tkA (packL ((encL ys).take 0)) ((A : Int) - (0 : Nat)) t) := by
    have e : tkA (packL ((encL ys).take 0)) ((A : Int) - (0 : Nat)) t = bkD (whD []) a t := by
      unfold tkA bkD whD
      rw [← HA.out]
      simp [packL]
    rw [e]
    exact hd6
  clear hd6 hg6 hd5 hr5 B5
  obtain ⟨w7, hw7⟩ : ∃ w7, w7 = w6.alloc (.cells #[.int .i64 0, .slice none 0 0, .slice none 0 0, .slice none 0 0] 27) := ⟨_, rfl⟩
  have r7 : Row w7 w6.heap.size 27 [.int .i64 0, .slice none 0 0, .slice none 0 0, .slice none 0 0] := by rw [hw7]; exact Row.new w6 27 _
  have b67 : Below w6.heap.size w6 w7 := by rw [hw7]; exact below_alloc _ _
  obtain ⟨w8, hw8⟩ : ∃ w8, w8 = w7.alloc (.cells #[] 27) := ⟨_, rfl⟩
  have b78 : Below w7.heap.size w7 w8 := by rw [hw8]; exact below_alloc _ _
  have hL8 : LB (RAY (Yk b w6.heap.size v5)) 27 4 0 w8 (.slice (some ⟨w7.heap.size, 0, none⟩) 0 0) [] := by rw [hw8]; exact LB.fresh _ 27 4 0 w7 (Nat.zero_le _)
  have r8 := r7.below b78
  have b68 := below_and b67 (Nat.le_refl _) b78
  have B8 := below_and B6 le b68
  have hd8 := hd6'.below b68
  have hr8 := hr6.below b68
  obtain ⟨bA, hbA⟩ : ∃ bA, bA = w6.heap.size := ⟨_, rfl⟩
  have hbAw : w.heap.size ≤ bA := by have := B6.size; omega
  have hvA : (Value.slice (some ⟨w7.heap.size, 0, none⟩) 0 0).ownBlock ≠ some bA := by have := r7.lt; simp [Value.ownBlock]; omega
  have hfr8 : Fr w.heap.size (Value.slice (some ⟨w7.heap.size, 0, none⟩) 0 0) := fr_at _ _ _ _ (Nat.le_trans B6.size b67.size)
  rw [← hbA] at hL8 r8
  go_upto_region 12 with fail
  rw [← hw7, ← hbA]
  clear hw7 hbA
  go_upto_region 14 with fail
  rw [← hw8]
  clear hw8 r7 b67 b78 b68 hd6' hr6
  have hO8 : RApp (Yk b bA v5) w8 [.int .i64 0, .slice none 0 0, .slice none 0 0, .slice none 0 0] (stA ys 0) := ⟨_, _, _, rfl, RL.nil _ _ _ _, RL.nil _ _ _ _, RL.nil _ _ _ _⟩
  try go_simp
  go_wp2_with fail
  go_loopw [15, 16, 63] (fun s15 s16 i wr => ∃ (k T : Nat) (vd : Value) (d : PDk) (row : List Value), k ≤ N ∧ i = .int .i64 k ∧ s15 = .int .i64 T ∧ T ≤ k ∧ Hid (Kst (encL ys) A t k T d) ∧ Hid (Byts ((encL ys).take k)) ∧ Dsk wr b vd d ∧ Fr w.heap.size vd ∧ Row wr g 65 (lgc b) ∧ Row wr bA 27 row ∧ RApp (Yk b bA vd) wr row (stA ys k) ∧ LB (RAY (Yk b bA vd)) 27 4 0 wr s16 (stL ys k) ∧ s16.ownBlock ≠ some bA ∧ Fr w.heap.size s16 ∧ Below w.heap.size w wr) (fun _ _ i _ => N - (intOf i).toNat)
  case atStart => exact ⟨0, 0, v5, _, _, by omega, rfl, rfl, by omega, (show Hid (Kst (encL ys) A t 0 0 _) from .inl ⟨by omega, rfl, rfl⟩), (show Hid (Byts ((encL ys).take 0)) from fun x hx => by simp at hx), hd8, hv5, hr8, r8, hO8, hL8, hvA, hfr8, B8⟩
  case round =>
    clear hd8 hv5 hr8 r8 hO8 hL8 hvA B8 B6 hfr8
    obtain ⟨k, T, vd, d, row, hk, rfl, rfl, hTk, HK, HBY, hd, hv, hr, rA, happY, hL, hvA, hfL, B⟩ := hrel
    have happ := rapp_any happY
    by_cases hkl : k < N
    · obtain ⟨y, hy⟩ : ∃ y, ys[k]? = some y := ⟨_, List.getElem?_eq_getElem (by have := HN.out; omega)⟩
      obtain ⟨bb, off, cap, e, so, sg, s1, s2, hzy, HR⟩ := HE.out k y hy
      injection e with e1 e2 e3
      clear e2
      subst e1 e3
      have hrng := (HR wr B).1
      have hone := onQ4 (n := y.1) (m := y.2.1) s1 s2
      have hrow0 := Row.new wr 34 [.int .i64 0, .int .i64 0, .slice none 0 0, .slice none 0 0]
      have hki : (k : Int) < (N : Int) := by omega
      have hst := stA_snoc hy
      have hxe : (encL ys)[k]? = some (snB (stA ys (k + 1))) := encL_at (by have := HN.out; omega)
      have HRR := (show Hid (∀ u, Below w.heap.size w u → RReq Any u [.int .i64 y.1, .int .i64 y.2.1, so, sg] y) from fun u hu => (HR u hu).2)
      have hg1 := stA_rgt ys (k + 1)
      have hz0 := rgt_szk (stA_rgt ys k)
      have hstep := kst_step HK.out hxe HSZ.out
      have hsn := stL_snoc ys k
      have hbt := take_snoc' (encL ys) k _ hxe
      obtain ⟨A0, hA0⟩ : ∃ A0, A0 = stA ys k := ⟨_, rfl⟩
      obtain ⟨A1, hA1⟩ : ∃ A1, A1 = stA ys (k + 1) := ⟨_, rfl⟩
      rw [← hA0, ← hA1] at hst
      rw [← hA0] at happ hz0
      clear happY
      rw [← hA1] at hg1 hstep hsn hbt hxe
      have HSN := (show Hid (stL ys (k + 1) = stL ys k ++ [A1]) from hsn)
      have HBT := (show Hid ((encL ys).take (k + 1) = (encL ys).take k ++ [snB A1]) from hbt)
      have HA1 := (show Hid (A1 = stA ys (k + 1)) from hA1)
      obtain ⟨ae, ce, al', cl', an, cn, rfl⟩ := formsU happ
      clear HR hy hsn hbt hA0 hA1 HK hxe
      go_upto_region 17 with (first
        | (refine wpList_load_mid rfl _ _ rfl bb (off + k * 4) rfl [.int .i64 y.1, .int .i64 y.2.1, so, sg] _ hrng Tryz.underlying34 rfl (by kernel_rfl) ?_)
        | (refine wl_store rfl _ _ _ rfl wr.heap.size [.int .i64 y.1, .int .i64 y.2.1, so, sg] rfl rfl _ _ hrow0 rfl (by kernel_rfl) hone ?_; intro w5 hr5 hg5))
      have q5 := hr5.out
      have hb5 : Below wr.heap.size wr w5 := (below_alloc wr (.cells ([.int .i64 0, .int .i64 0, .slice none 0 0, .slice none 0 0] : List Value).toArray 34)).trans (grown_below hg5 (by simp) (fun k hk => by cases hk; exact Nat.le_refl _))
      have B5 := below_and B le hb5
      have hd5 := hd.below hb5
      have hr5' := hr.below hb5
      have rA5 := rA.below hb5
      have happ5 := happ.below hb5
      have hL5 := hL.below (mov_ray _) hb5
      obtain ⟨gb, hgb⟩ : ∃ gb, gb = wr.heap.size := ⟨_, rfl⟩
      rw [← hgb] at q5 ⊢
      have HC := (show Hid (∀ u, Below w5.heap.size w5 u → Calls Tryz.prog 8 #[.agg #[.int .i64 y.1, .int .i64 y.2.1, so, sg]] u fun e w' => ∃ n1 n2, e = .returned (.agg #[.int .i64 y.1, .int .i64 y.2.1, n1, n2]) ∧ RReq Any w' [.int .i64 y.1, .int .i64 y.2.1, n1, n2] y ∧ Below w5.heap.size w5 w') from fun u hu => by
        refine (copyReq_any u [.int .i64 y.1, .int .i64 y.2.1, so, sg] y (HRR.out u (below_and B5 le hu)) hzy).mono ?_
        rintro e w' ⟨r6, e1, hR6, hb6⟩
        have hR6' := hR6
        obtain ⟨q1, q2, rfl, t1, t2⟩ := hR6'
        exact ⟨q1, q2, e1, mov_req _ _ _ _ _ _ hR6 (Nat.le_refl _) Mv.any, below_and hu (Nat.le_refl _) hb6⟩)
      have HAp := (show Hid (∀ u n1 n2, Below w5.heap.size w5 u → RReq Any u [.int .i64 y.1, .int .i64 y.2.1, n1, n2] y → Calls Tryz.prog 4 #[.agg #[.int .i64 A0.1, .slice ae A0.2.1.length ce, .slice al' A0.2.2.1.length cl', .slice an A0.2.2.2.length cn], .agg #[.int .i64 y.1, .int .i64 y.2.1, n1, n2]] u fun e w' => ∃ x1 y1 x2 y2 x3 y3 cc vv dd, e = .returned (.tuple #[.agg #[.int .i64 A1.1, .slice x1 A1.2.1.length y1, .slice x2 A1.2.2.1.length y2, .slice x3 A1.2.2.2.length y3], .agg #[.int .i64 cc, vv], .bool dd]) ∧ RApp (From w5.heap.size) w' [.int .i64 A1.1, .slice x1 A1.2.1.length y1, .slice x2 A1.2.2.1.length y2, .slice x3 A1.2.2.2.length y3] A1 ∧ Below w5.heap.size w5 w') from fun u n1 n2 hu hx => by
        refine (apply_any u _ A0 (happ5.below hu) hz0 _ y hx hzy).mono ?_
        rintro e w' ⟨row', vv, e1, o1, t1, b1⟩
        rw [← hst] at o1
        have o2 := o1
        obtain ⟨x1, y1, x2, y2, x3, y3, rfl⟩ := forms9k o2
        exact ⟨x1, y1, x2, y2, x3, y3, _, vv, _, e1, mov_app _ _ _ _ _ _ o1.appF (Nat.le_refl _) (fun k hk _ => ⟨rfl, Nat.le_trans hu.size hk⟩), below_and hu (Nat.le_refl _) b1⟩)
      have RA := (show Hid (∀ u, Below w5.heap.size w5 u → Row u bA 27 [.int .i64 A0.1, .slice ae A0.2.1.length ce, .slice al' A0.2.2.1.length cl', .slice an A0.2.2.2.length cn]) from fun u hu => rA5.below hu)
      have hdw : Below w5.heap.size w5 w5.drew := ⟨rfl, rfl, rfl, Nat.le_refl _, fun _ _ => rfl⟩
      have c0 := rA5.cell (j := 0) rfl; have c1 := rA5.cell (j := 1) rfl; have c2 := rA5.cell (j := 2) rfl; have c3 := rA5.cell (j := 3) rfl
      have q50 := q5.cell (j := 0) rfl; have q51 := q5.cell (j := 1) rfl; have q52 := q5.cell (j := 2) rfl; have q53 := q5.cell (j := 3) rfl
      clear hrng hone hrow0 hg5 hgb happ hst hd hr rA hL HRR hr5 hzy hz0
      try go_simp
      go_cut [15] from 67 to 74 (fun s15 wx => ∃ (x1 x2 x3 : Option Addr) (y1 y2 y3 : Nat), s15 = .int .i64 T ∧ Row wx bA 27 [.int .i64 A1.1, .slice x1 A1.2.1.length y1, .slice x2 A1.2.2.1.length y2, .slice x3 A1.2.2.2.length y3] ∧ RApp (From w5.heap.size) wx [.int .i64 A1.1, .slice x1 A1.2.1.length y1, .slice x2 A1.2.2.1.length y2, .slice x3 A1.2.2.2.length y3] A1 ∧ w5.grownBy wx (some bA))
      case first =>
        go_region_law (first
          | (go_simp; go_at_call 4; refine (HAp.out w6 n1 n2 hB6 hR6).mono ?_; rintro e w7 ⟨x1, y1, x2, y2, x3, y3, cc, vv, dd, rfl, hap7, hB7⟩; have rA7 := RA.out w7 hB7; have f0 := rA7.cell (j := 0) rfl; have f1 := rA7.cell (j := 1) rfl; have f2 := rA7.cell (j := 2) rfl; have f3 := rA7.cell (j := 3) rfl; have z0 := rA7.frozen 0; have z1 := rA7.frozen 1; have z2 := rA7.frozen 2; have z3 := rA7.frozen 3)
          | (go_simp; go_at_call 8; refine (HC.out _ (by first | (with_reducible exact Below.refl _ _) | (with_reducible exact hdw))).mono ?_; rintro e w6 ⟨n1, n2, rfl, hR6, hB6⟩; have ra6 := RA.out w6 hB6; have c0 := ra6.cell (j := 0) rfl; have c1 := ra6.cell (j := 1) rfl; have c2 := ra6.cell (j := 2) rfl; have c3 := ra6.cell (j := 3) rfl))
        all_goals (
          obtain ⟨q9, g9⟩ := set4_row (v0 := .int .i64 A1.1) (v1 := .slice x1 A1.2.1.length y1) (v2 := .slice x2 A1.2.2.1.length y2) (v3 := .slice x3 A1.2.2.2.length y3) rA7
          have hbl := rA5.lt
          have hap9 := rapp_from hap7 g9.size (fun k hk hlt => g9.block k hlt (fun e => by injection e with e; omega))
          generalize ((((w7.setCell ⟨bA, 0, none⟩ (.int .i64 A1.1)).setCell ⟨bA, 1, none⟩ (.slice x1 A1.2.1.length y1)).setCell ⟨bA, 2, none⟩ (.slice x2 A1.2.2.1.length y2)).setCell ⟨bA, 3, none⟩ (.slice x3 A1.2.2.2.length y3)) = w9 at q9 g9 hap9 ⊢
          go_wp2_with fail
          go_meet
          exact ⟨x1, x2, x3, y1, y2, y3, rfl, q9, hap9, grown_trans (grown_of_below hB7 _) g9 (.inl rfl)⟩)
      case rest =>
        obtain ⟨x1, x2, x3, y1, y2, y3, rfl, rAc, hapc, hgc⟩ := hcut
        have hbl := rA5.lt
        have hdl := hd5.lt
        have hvl := hd5.own.lt
        have hc5 := hgc.size
        have hL5' : LB (RAY (Yk b bA vd)) 27 4 0 wc u16 (stL ys k) := hL5.turnA hgc.size (fun q hq hlt => hgc.block q hlt (fun e => by injection e with e; exact hvA (e ▸ hq))) (fun q hq hlt => ⟨hgc.block q hlt (fun e => by injection e with e; exact hq.2.1 e), hq⟩)
        have hdc : Dsk wc b vd d := hd5.grown hgc (fun e => by injection e with e; exact hd5.row.apart rA5 (by decide) e.symm) (fun q hq => by injection hq with hq; subst hq; exact own_row_nD rA5 hd5.own (by decide))
        have hrc : Row wc g 65 (lgc b) := hr5'.grown hgc (fun e => by injection e with e; exact hr5'.apart rA5 (by decide) e.symm)
        have Bc : Below w.heap.size w wc := B5.trans (grown_below hgc B5.size (fun q hq => by cases hq; exact hbAw))
        have hLlt := hL5.lt
        have hapY : RAY (Yk b bA vd) (From w5.heap.size) wc [.int .i64 A1.1, .slice x1 A1.2.1.length y1, .slice x2 A1.2.2.1.length y2, .slice x3 A1.2.2.2.length y3] A1 := mov_app _ _ _ _ _ _ hapc (Nat.le_refl _) (fun q hq _ => ⟨rfl, hq, by have : w5.heap.size ≤ q := hq; exact ⟨by omega, by omega, fun e => by have := hvl q e; omega⟩⟩)
        have HKL := (show Hid ((stL ys k).length = k) from stL_len ys k)
        have hkb : (k : Int) ≤ 60 := by have := HN60.out; have := HN.out; omega
        clear hL5 hd5 hr5' rA5 happ5 B5 HC HAp RA hb5 q5 c0 c1 c2 c3 q50 q51 q52 q53
        go_upto_region 19 with (first
          | (refine wl_load rfl _ _ rfl bA rfl _ _ rAc _ Tryz.underlying27 rfl (by kernel_rfl) ?_)
          | (at_builtin; refine wl_pushK (mov_ray _) rfl _ _ _ rfl 27 4 80 _ Tryz.underlying43 Tryz.inf_appK rfl (by decide) 0 u16 (stL ys k) rfl hL5' [.int .i64 A1.1, .slice x1 A1.2.1.length y1, .slice x2 A1.2.2.1.length y2, .slice x3 A1.2.2.2.length y3] A1 w5.heap.size hapY rfl (onA4 rfl rfl rfl) (Nat.zero_le _) hLlt rfl (Nat.zero_le _) (by rw [HKL.out]; omega) (by decide) ?_; intro v8 w8 hL8 hg8 hat8))
        rw [← HSN.out] at hL8
        have hneb : u16.ownBlock ≠ some b := hL5'.apartU hdc.row (by decide)
        have hneg : u16.ownBlock ≠ some g := hL5'.apartU hrc (by decide)
        have hd8 : Dsk w8 b vd d := hdc.grown hg8 hneb (fun q hq => hL5'.apartO hdc.own (by decide) q hq)
        have hr8 : Row w8 g 65 (lgc b) := hrc.grown hg8 hneg
        have rA8 := rAc.grown hg8 hvA
        have hap8 := rapp_from hapc hg8.size (fun q hq hlt => hg8.block q hlt (fun e => by have := hLlt q e.symm; omega))
        have hvA8 : v8.ownBlock ≠ some bA := by
          rcases hat8 with h | h
          · rw [h]; exact hvA
          · intro e; have := h _ e; omega
        have B8 : Below w.heap.size w w8 := Bc.trans (grown_below hg8 Bc.size (fun q hq => hfL q hq))
        have hfL8 : Fr w.heap.size v8 := by
          rcases hat8 with h | h
          · exact fun q hq => hfL q (h ▸ hq)
          · exact fun q hq => Nat.le_trans Bc.size (h q hq)
        have hc8 := hg8.size
        have hE := snapEncode_any w8 _ A1 (rapp_any hap8)
        have hby := snB_byt hap8
        rw [show snE A1 = 0 from if_pos hg1] at hE
        have HE8 := (show Hid (∀ _ : Unit, _) from fun _ => hE)
        have hlen := sn_len hg1
        obtain ⟨SB, hSB⟩ : ∃ SB, SB = snB A1 := ⟨_, rfl⟩
        rw [← hSB] at HE8 hby hstep HBT hlen
        have HLN := (show Hid (SB.length ≤ 30000) from hlen)
        have HB8 := (show Hid (∀ x ∈ (encL ys).take (k + 1), Byt x) from by
          rw [HBT.out]
          intro x hx
          rcases List.mem_append.1 hx with h | h
          · exact HBY.out x h
          · rw [List.mem_singleton.1 h]; exact hby)
        clear hE hL5' hdc hrc rAc hapc hapY Bc hg8 hat8 hSB hg1 HBY HBT hLlt hneb hneg hlen
        go_upto_region 22 with (first
          | (refine wl_load rfl _ _ rfl bA rfl _ _ rA8 _ Tryz.underlying27 rfl (by kernel_rfl) ?_)
          | (go_at_call 9; refine (HE8.out ()).mono ?_; rintro e w9 ⟨v9, rfl, ho9, hf9, hb9⟩))
        have hd9 := hd8.below hb9
        have hr9 := hr8.below hb9
        have rA9 := rA8.below hb9
        have hap9 := rapp_from hap8 hb9.size (fun q _ hlt => hb9.block q hlt)
        have hL9 := hL8.below (mov_ray _) hb9
        have B9 := below_and B8 le hb9
        have hc9 := hb9.size
        have HAd := (show Hid (∀ _ : Unit, _) from fun _ => addW_any w9 g b vd v9 d SB hr9 hd9 (ho9.rd hby) (by have := HLN.out; omega))
        obtain ⟨⟨D, E⟩, hD⟩ : ∃ Q, Q = apD d (frm SB) := ⟨_, rfl⟩
        rw [← hD] at hstep HAd
        dsimp only at hstep HAd
        have HFIN := (show Hid (∀ w10 v10, Dsk w10 b v10 D → Gr2 w9 w10 b vd → Spt w9 vd v10 → Fr w.heap.size v10 ∧ Row w10 g 65 (lgc b) ∧ Row w10 bA 27 [.int .i64 A1.1, .slice x1 A1.2.1.length y1, .slice x2 A1.2.2.1.length y2, .slice x3 A1.2.2.2.length y3] ∧ RApp (Yk b bA v10) w10 [.int .i64 A1.1, .slice x1 A1.2.1.length y1, .slice x2 A1.2.2.1.length y2, .slice x3 A1.2.2.2.length y3] (stA ys (k + 1)) ∧ LB (RAY (Yk b bA v10)) 27 4 0 w10 v8 (stL ys (k + 1)) ∧ Below w.heap.size w w10) from fun w10 v10 hd10 hG hS => by
          refine ⟨Spt.frK hS hv B9.size, hG.lg hd9 hr9, hG.row rA9 (Ne.symm (hd9.row.apart rA9 (by decide))) (own_row_nD rA9 hd9.own (by decide)), ?_, ?_, B9.trans (hG.below B9.size hbw hv)⟩
          · rw [← HA1.out]
            exact mov_app _ _ _ _ _ _ hap9 hG.size (fun q hq hlt => by
              have hq : w5.heap.size ≤ q := hq
              have hy : q ≠ b ∧ q ≠ bA ∧ vd.ownBlock ≠ some q := ⟨by omega, by omega, fun e => by have := hvl q e; omega⟩
              exact ⟨hG.block q hlt hy.1 hy.2.2, Yk_turn hS hy hlt⟩)
          · exact hL9.turnA hG.size (fun q hq hlt => hG.block q hlt (fun e => hL9.apartU hd9.row (by decide) (e ▸ hq)) (hL9.apartO hd9.own (by decide) q hq)) (fun q hq hlt => ⟨hG.block q hlt hq.1 hq.2.2, Yk_turn hS hq hlt⟩))
        clear hd8 hr8 rA8 hap8 hL8 B8 HE8 ho9 hf9 hb9 hD hby hd9 hr9 rA9 hap9 hL9 B9
        rcases hstep with ⟨rfl, hdead, hK⟩ | ⟨rfl, hK⟩
        · have HK' := (show Hid (Kst (encL ys) A t (k + 1) (T + 1) D) from hK)
          clear hK
          go_upto_region 23 with (first
            | (go_at_call 10; refine (HAd.out ()).mono ?_; rintro e w10 ⟨v10, rfl, hd10, hG10, hS10⟩; have hDd := dead_any w10 b _ _ hd10; rw [hdead] at hDd)
            | (go_at_call 11; refine hDd.mono ?_; rintro e w10 ⟨rfl, rfl⟩))
          obtain ⟨f1, f2, f3, f4, f5, f6⟩ := HFIN.out w10 v10 hd10 hG10 hS10
          clear HFIN hG10 hS10 hDd
          have hTb : (T : Int) ≤ 60 := by omega
          go_wp2_with fail
          go_roundw
          case rel => exact ⟨k + 1, T + 1, v10, D, _, by omega, by go_num, by go_num, by omega, HK', HB8, hd10, f1, f2, f3, f4, f5, hvA8, hfL8, f6⟩
          case measure => simp [intOf]; omega
        · have HK' := (show Hid (Kst (encL ys) A t (k + 1) T D) from hK)
          clear hK
          go_upto_region 24 with (go_at_call 10; refine (HAd.out ()).mono ?_; rintro e w10 ⟨v10, rfl, hd10, hG10, hS10⟩)
          obtain ⟨f1, f2, f3, f4, f5, f6⟩ := HFIN.out w10 v10 hd10 hG10 hS10
          clear HFIN hG10 hS10
          go_wp2_with fail
          go_roundw
          case rel => exact ⟨k + 1, T, v10, D, _, by omega, by go_num, rfl, by omega, HK', HB8, hd10, f1, f2, f3, f4, f5, hvA8, hfL8, f6⟩
          case measure => simp [intOf]; omega
    · have hki : decide ((k : Int) < (N : Int)) = false := by simp; omega
      obtain rfl : k = ys.length := by have := HN.out; omega
      have hLLb : Byts (encL ys) := by have := HBY.out; rwa [List.take_of_length_le (by rw [encL_len]; omega)] at this
      have hKe := HK.out
      rw [← encL_len ys] at hKe
      obtain ⟨G, g1, g2, g3, g4, g5⟩ := kst_end hKe hLLb HSZ.out
      rw [encL_len] at g3
      have hGN : G ≤ N := by have := HN.out; omega
      have HGE := (show Hid (∀ i, i < G → ((encL ys).take G)[i]? = some (snB (stA ys (i + 1)))) from fun i hi => by rw [List.getElem?_take, if_pos hi]; exact encL_at (by omega))
      have HGL := (show Hid (((encL ys).take G).length = G) by show _ = _; rw [List.length_take, encL_len]; omega)
      have HGB := (show Hid (∀ i, i < G → Byt (snB (stA ys (i + 1)))) from fun i hi => hLLb _ (List.mem_of_getElem? (encL_at (by omega))))
      have happ0 := happY
      rw [stA_all] at happ0
      obtain ⟨aS, cS, eS, _⟩ := (hL.rl (mov_ray _)).form
      rw [stL_len, HN.out] at eS
      have HES := (show Hid (u16 = .slice aS N cS) from eS)
      obtain ⟨AN, hAN⟩ : ∃ AN, AN = runA z0A ys := ⟨_, rfl⟩
      rw [← hAN] at happ0
      have HRN := (show Hid (∀ q, runA (stA ys q) (ys.drop q) = AN) from fun q => by rw [hAN]; exact stA_rest ys q)
      obtain ⟨ae, ce, al', cl', an, cn, rfl⟩ := formsU happ0
      clear hKe hLLb hAN HK HBY happY hfL happ eS
      go_upto_region 26 with (go_at_call 12; refine (mend_any wr b _ _ hd).mono ?_; rintro e w2 ⟨rfl, hd2, hg2⟩)
      have B2 : Below w.heap.size w w2 := B.trans (grown_below hg2 B.size (fun k hk => by cases hk; exact hbw))
      go_upto_region 27 with (go_at_call 6; refine (openW_any w2 b _ _ hd2).mono ?_; rintro e w3 ⟨v3, m3, o3, us3, rfl, hd3, hG3, hS3, _, _, ho3, he3, hf3, _⟩; rw [g4] at hd3 ⊢; rw [g5] at he3; have hul := (All2.len he3 : us3.length = _); rw [HGL.out] at hul; obtain ⟨a3, c3, e3, _⟩ := ho3.form; rw [hul] at e3)
      have GG : Gr2 wr w3 b vd := (Gr2.of hg2).trans (.inl rfl) hG3
      have B3 : Below w.heap.size w w3 := B.trans (GG.below B.size hbw hv)
      have rA3 := GG.row rA (Ne.symm (hd.row.apart rA (by decide))) (own_row_nD rA hd.own (by decide))
      have happ3 : RApp Any w3 [.int .i64 AN.1, .slice ae AN.2.1.length ce, .slice al' AN.2.2.1.length cl', .slice an AN.2.2.2.length cn] AN := mov_app _ _ _ _ _ _ happ0 GG.size (fun q hq hlt => ⟨GG.block q hlt hq.1 hq.2.2, trivial⟩)
      have hL3 : LB (RAY (fun _ => True)) 27 4 0 w3 u16 (stL ys ys.length) := hL.turnA GG.size (fun q hq hlt => GG.block q hlt (fun e => hL.apartU hd.row (by decide) (e ▸ hq)) (hL.apartO hd.own (by decide) q hq)) (fun q hq hlt => ⟨GG.block q hlt hq.1 hq.2.2, trivial⟩)
      have HST := (show Hid (∀ i, i < N → ∃ sb so x1 y1 x2 y2 x3 y3, u16 = .slice (some ⟨sb, so, none⟩) N cS ∧ N ≤ cS ∧ wfA (stA ys (i + 1)) ∧ ∀ u, Below w3.heap.size w3 u → u.rangeAt sb (so + i * 4) [.int .i64 (stA ys (i + 1)).1, .slice x1 (stA ys (i + 1)).2.1.length y1, .slice x2 (stA ys (i + 1)).2.2.1.length y2, .slice x3 (stA ys (i + 1)).2.2.2.length y3] ∧ RApp Any u [.int .i64 (stA ys (i + 1)).1, .slice x1 (stA ys (i + 1)).2.1.length y1, .slice x2 (stA ys (i + 1)).2.2.1.length y2, .slice x3 (stA ys (i + 1)).2.2.2.length y3] (stA ys (i + 1))) from fun i hi => by
        obtain ⟨sb, so, cap, e, q1, q2, _, hlt, q4⟩ := (hL3.rl (mov_ray _)).at (by rw [stL_len]; have := HN.out; omega)
        rw [stL_len, HN.out] at e q1
        obtain ⟨r, _, hrg, hra⟩ := q4 i _ (stL_at (by have := HN.out; omega))
        have hra' : RApp Any w3 r (stA ys (i + 1)) := rapp_any hra
        obtain ⟨x1, y1, x2, y2, x3, y3, rfl⟩ := formsU hra'
        have hc : cap = cS := by have h5 := HES.out; rw [e] at h5; injection h5
        subst hc
        exact ⟨sb, so, x1, y1, x2, y2, x3, y3, e, q1, hra'.wfA, fun u hu => ⟨rangeAt_block hrg (hu.block sb hlt), hra'.below hu⟩⟩)
      have HGOT := (show Hid (∀ i, i < G → ∃ ob oo ca xa ya, o3 = .slice (some ⟨ob, oo, none⟩) G ca ∧ G ≤ ca ∧ ∀ u, Below w3.heap.size w3 u → u.cell? ⟨ob, oo + i, none⟩ = some (.slice xa (snB (stA ys (i + 1))).length ya) ∧ Rd u (.slice xa (snB (stA ys (i + 1))).length ya) (snB (stA ys (i + 1)))) from fun i hi => by
        obtain ⟨ob, oo, ca, e, q1, q2, hlt, hc⟩ := ho3.rdv.at (by omega)
        rw [hul] at e q1
        have hlen : us3.length = ((encL ys).take G).length := All2.len he3
        have hci := List.getElem?_eq_getElem (show i < us3.length by omega)
        have hown : Own w3 5 us3[i] (bc (snB (stA ys (i + 1)))) := All2.get he3 hci (HGE.out i hi)
        have hrd := hown.rd (HGB.out i hi)
        obtain ⟨xa, ya, ev, _⟩ := hrd.form
        rw [ev] at hrd hci
        exact ⟨ob, oo, ca, xa, ya, e, q1, fun u hu => ⟨(hu.cell (p := ⟨ob, oo + i, none⟩) hlt).trans (hc i _ hci), hrd.below hu⟩⟩)
      have q1 : decide ((G : Int) < (T : Int)) = false := by simp; omega
      have q2 : decide ((T : Int) + 1 < (G : Int)) = false := by simp; omega
      have q3 : decide ((N : Int) < (G : Int)) = false := by simp; omega
      have hTb : (T : Int) ≤ 60 := by omega
      have hGb : (G : Int) ≤ 60 := by omega
      have HE3 := (show Hid (o3 = .slice a3 G c3) from e3)
      clear ho3 he3 hf3 hul hd2 hg2 hG3 hS3 hd hr rA happ0 hL hv hvA GG B2 hd3 g4 g5 g3 hTk hL3 B
      obtain ⟨w4, hw4⟩ : ∃ w4, w4 = w3.alloc (.cells #[.int .i64 0, .slice none 0 0, .slice none 0 0, .slice none 0 0] 27) := ⟨_, rfl⟩
      have r4 : Row w4 w3.heap.size 27 [.int .i64 0, .slice none 0 0, .slice none 0 0, .slice none 0 0] := by rw [hw4]; exact Row.new w3 27 _
      have b34 : Below w3.heap.size w3 w4 := by rw [hw4]; exact below_alloc _ _
      have hO4 : OApp (w3.heap.size + 1) w4 [.int .i64 0, .slice none 0 0, .slice none 0 0, .slice none 0 0] (stA ys 0) := OApp.zero _ w4
      have hS4 := HES.out
      have hQ4 := HE3.out
      clear e3
      subst hQ4
      go_upto_region 30 with fail
      rw [← hw4]
      clear hw4
      go_wp2_with fail
      go_loopw [131] (fun i wr => ∃ (q C : Nat) (row : List Value), q ≤ G ∧ i = .int .i64 q ∧ w3.heap.size < C ∧ OApp C wr row (stA ys q) ∧ Row wr w3.heap.size 27 row ∧ Below w3.heap.size w3 wr) (fun i _ => G - (intOf i).toNat)
      case atStart => exact ⟨0, w3.heap.size + 1, _, by omega, rfl, by omega, hO4, r4, b34⟩
      case round =>
        clear hO4 r4 b34
        obtain ⟨q, C, row, hq, rfl, hC, hO, rL, hb⟩ := hrel
        by_cases hql : q < G
        · obtain ⟨sb, so, x1, y1, x2, y2, x3, y3, eU, hNc, hwf, hRng⟩ := HST.out q (by omega)
          obtain ⟨ob, oo, ca, xa, ya, eO, hGc, hCel⟩ := HGOT.out q hql
          injection eO with eO1 eO2 eO3
          clear eO2
          subst eO1 eO3
          have hqi : (q : Int) < (G : Int) := by omega
          have hcq := (hCel wr hb).1
          have hrq := (hCel wr hb).2
          have hg1 := stA_rgt ys (q + 1)
          have hby := hrq.1
          have hdc : decA (snB (stA ys (q + 1))) = some (stA ys (q + 1)) := (decA_some hby _).2 ⟨hwf, hg1, if_pos hg1⟩
          have hdA : dcA (snB (stA ys (q + 1))) = stA ys (q + 1) := by unfold dcA; rw [hdc]; rfl
          have hdE : dcE (snB (stA ys (q + 1))) = 0 := by unfold dcE; rw [hdc]; rfl
          have hln := sn_len hg1
          have hD := snapDecode_any wr _ _ hrq (by omega)
          have HST1 := (show Hid (∀ u, Below w3.heap.size w3 u → u.rangeAt sb (so + q * 4) [.int .i64 (stA ys (q + 1)).1, .slice x1 (stA ys (q + 1)).2.1.length y1, .slice x2 (stA ys (q + 1)).2.2.1.length y2, .slice x3 (stA ys (q + 1)).2.2.2.length y3] ∧ RApp Any u [.int .i64 (stA ys (q + 1)).1, .slice x1 (stA ys (q + 1)).2.1.length y1, .slice x2 (stA ys (q + 1)).2.2.1.length y2, .slice x3 (stA ys (q + 1)).2.2.2.length y3] (stA ys (q + 1))) from hRng)
          obtain ⟨A1, hA1⟩ : ∃ A1, A1 = stA ys (q + 1) := ⟨_, rfl⟩
          have HA1 := (show Hid (A1 = stA ys (q + 1)) from hA1)
          have HD := (show Hid (∀ _ : Unit, Calls Tryz.prog 13 #[.slice xa (snB A1).length ya] wr fun e w' => ∃ ae ce al cl an cn, e = .returned (.tuple #[.agg #[.int .i64 A1.1, .slice ae A1.2.1.length ce, .slice al A1.2.2.1.length cl, .slice an A1.2.2.2.length cn], .int .i64 0]) ∧ OApp wr.heap.size w' [.int .i64 A1.1, .slice ae A1.2.1.length ce, .slice al A1.2.2.1.length cl, .slice an A1.2.2.2.length cn] A1 ∧ Below wr.heap.size wr w') from fun _ => by
            rw [hA1]
            refine hD.mono fun e w' hP => ?_
            obtain ⟨row, e1, e2, e3⟩ := hP
            rw [hdE] at e1
            rw [hdA] at e2
            have e2' := e2
            obtain ⟨ae, ce, al, cl, an, cn, rfl⟩ := forms9k e2'
            exact ⟨_, _, _, _, _, _, e1, e2, e3⟩)
          rw [← hA1] at HST1 hcq
          generalize snB A1 = SB at hcq HD
          clear hD hdc hdA hdE hln hby hrq hCel hRng hwf hA1 hg1
          subst eU
          go_upto_region 33 with fail
          go_upto_region 34 with (go_at_call 13; refine (HD.out ()).mono ?_; rintro e w5 ⟨be, de, bl, dl, bn, dn', rfl, hO5, hb5⟩)
          obtain ⟨w6, hw6⟩ : ∃ w6, w6 = w5.alloc (.cells #[.int .i64 A1.1, .slice be A1.2.1.length de, .slice bl A1.2.2.1.length dl, .slice bn A1.2.2.2.length dn'] 27) := ⟨_, rfl⟩
          have z6 : Row w6 w5.heap.size 27 [.int .i64 A1.1, .slice be A1.2.1.length de, .slice bl A1.2.2.1.length dl, .slice bn A1.2.2.2.length dn'] := by rw [hw6]; exact Row.new w5 27 _
          have hb6 : Below w5.heap.size w5 w6 := by rw [hw6]; exact below_alloc _ _
          rw [← hw6]
          obtain ⟨b6, hb6'⟩ : ∃ b6, b6 = w5.heap.size := ⟨_, rfl⟩
          rw [← hb6'] at z6 ⊢
          have hO6 := hO5.below hb6
          have hbr6 := below_and hb5 (Nat.le_refl _) hb6
          have hb36 := below_and hb (Nat.le_refl _) hbr6
          have rL6 := rL.below hbr6
          have hne6 : b6 ≠ w3.heap.size := by have := rL.lt; have := hb5.size; omega
          have HS1 := (show Hid (∀ u, Below w6.heap.size w6 u → Calls Tryz.prog 14 #[.agg #[.int .i64 A1.1, .slice be A1.2.1.length de, .slice bl A1.2.2.1.length dl, .slice bn A1.2.2.2.length dn'], .agg #[.int .i64 A1.1, .slice x1 A1.2.1.length y1, .slice x2 A1.2.2.1.length y2, .slice x3 A1.2.2.2.length y3]] u fun e w' => e = .returned (.bool true) ∧ Below w6.heap.size w6 w') from fun u hu => (sameA_eq u _ _ A1 (hO6.app.below hu) (HST1.out u (below_and hb36 (Nat.le_refl _) hu)).2).mono fun e w' ⟨e1, e2⟩ => ⟨e1, below_and hu (Nat.le_refl _) e2⟩)
          have SK := (show Hid (∀ u, Below w6.heap.size w6 u → u.cell? ⟨b6, 0, none⟩ = some (.int .i64 A1.1) ∧ u.cell? ⟨b6, 1, none⟩ = some (.slice be A1.2.1.length de) ∧ u.cell? ⟨b6, 2, none⟩ = some (.slice bl A1.2.2.1.length dl) ∧ u.cell? ⟨b6, 3, none⟩ = some (.slice bn A1.2.2.2.length dn') ∧ u.cell? ⟨sb, so + q * 4, none⟩ = some (.int .i64 A1.1) ∧ u.cell? ⟨sb, so + q * 4 + 1, none⟩ = some (.slice x1 A1.2.1.length y1) ∧ u.cell? ⟨sb, so + q * 4 + 2, none⟩ = some (.slice x2 A1.2.2.1.length y2) ∧ u.cell? ⟨sb, so + q * 4 + 3, none⟩ = some (.slice x3 A1.2.2.2.length y3)) from fun u hu => by
            have hg := (HST1.out u (below_and hb36 (Nat.le_refl _) hu)).1
            exact ⟨(z6.below hu).cell (j := 0) rfl, (z6.below hu).cell (j := 1) rfl, (z6.below hu).cell (j := 2) rfl, (z6.below hu).cell (j := 3) rfl, hg 0 _ rfl, hg 1 _ rfl, hg 2 _ rfl, hg 3 _ rfl⟩)
          have hdw : Below w6.heap.size w6 w6.drew := ⟨rfl, rfl, rfl, Nat.le_refl _, fun _ _ => rfl⟩
          have hqN : (q : Int) < (N : Int) := by omega
          have hqN' : q < N := by omega
          clear hw6 hb6' HD hO5 hcq
          try go_simp
          go_cut [151] from 141 to 151 (fun s151 wx => s151 = .bool false ∧ Below w6.heap.size w6 wx)
          case first =>
            go_region_held3 (fun u => u.cell? ⟨b6, 0, none⟩ = some (.int .i64 A1.1) ∧ u.cell? ⟨b6, 1, none⟩ = some (.slice be A1.2.1.length de) ∧ u.cell? ⟨b6, 2, none⟩ = some (.slice bl A1.2.2.1.length dl) ∧ u.cell? ⟨b6, 3, none⟩ = some (.slice bn A1.2.2.2.length dn') ∧ u.cell? ⟨sb, so + q * 4, none⟩ = some (.int .i64 A1.1) ∧ u.cell? ⟨sb, so + q * 4 + 1, none⟩ = some (.slice x1 A1.2.1.length y1) ∧ u.cell? ⟨sb, so + q * 4 + 2, none⟩ = some (.slice x2 A1.2.2.1.length y2) ∧ u.cell? ⟨sb, so + q * 4 + 3, none⟩ = some (.slice x3 A1.2.2.2.length y3))
              (first | (with_reducible exact SK.out w7 hB7) | (with_reducible exact SK.out w6 (Below.refl _ _)) | (with_reducible exact SK.out w6.drew hdw) | go_keep)
              (first | (go_at_call 14; refine (HS1.out _ (by first | (with_reducible exact Below.refl _ _) | (with_reducible exact hdw))).mono ?_; rintro e w7 ⟨rfl, hB7⟩))
            all_goals (
              go_wp2_with fail
              go_meet
              exact ⟨rfl, hB7⟩)
          case rest =>
            obtain ⟨rfl, hBc⟩ := hcut
            have zc := z6.below hBc
            have rLc := rL6.below hBc
            have hOc := hO6.below hBc
            have hb3c := below_and hb36 (Nat.le_refl _) hBc
            clear SK HS1 hdw z6 rL6 hO6
            go_wp2_with (first
              | (refine wl_load rfl _ _ rfl b6 rfl _ _ zc _ Tryz.underlying27 rfl (by kernel_rfl) ?_)
              | (refine wl_store rfl _ _ _ rfl w3.heap.size [.int .i64 A1.1, .slice be A1.2.1.length de, .slice bl A1.2.2.1.length dl, .slice bn A1.2.2.2.length dn'] rfl rfl _ _ rLc (by obtain ⟨_, _, _, e, _⟩ := hO; rw [e]; rfl) (by kernel_rfl) (onA4 rfl rfl rfl) ?_; intro w9 hr9 hg9))
            have hlt3 := rL.lt
            have hO9 : OApp wr.heap.size w9 [.int .i64 A1.1, .slice be A1.2.1.length de, .slice bl A1.2.2.1.length dl, .slice bn A1.2.2.2.length dn'] (stA ys (q + 1)) := by rw [← HA1.out]; exact hOc.grown hg9 hlt3
            go_roundw
            case rel => exact ⟨q + 1, wr.heap.size, _, by omega, by go_num, hlt3, hO9, hr9.out, hb3c.trans (grown_below hg9 hb3c.size (fun k hk => by cases hk; exact Nat.le_refl _))⟩
            case measure => simp [intOf]; omega
        · have hqi : decide ((q : Int) < (G : Int)) = false := by simp; omega
          have hqG : q = G := by omega
          rw [hqG] at hO
          obtain ⟨be, de, bl, dl, bn, dn', rfl⟩ := forms9k hO
          have hrest := HRN.out G
          have hzG := rgt_szk (stA_rgt ys G)
          obtain ⟨AG, hAG⟩ : ∃ AG, AG = stA ys G := ⟨_, rfl⟩
          rw [← hAG] at hO rL hrest hzG
          have Bw : Below w.heap.size w wr := below_and B3 le hb
          have rA9 := rA3.below hb
          have happ9 := happ3.below hb
          have HRu := (show Hid (∀ u, Below wr.heap.size wr u → Calls Tryz.prog 15 #[.agg #[.int .i64 AG.1, .slice be AG.2.1.length de, .slice bl AG.2.2.1.length dl, .slice bn AG.2.2.2.length dn'], .slice (if cl = G then al else al.map (·.add (G * 4))) (N - G) (cl - G)] u fun e w' => ∃ r, e = .returned (.agg r) ∧ Hid (∀ z, Below w'.heap.size w' z → RApp Any z r.toList AN) ∧ Below wr.heap.size wr w') from fun u hu => (run_any u _ AG (hO.app.below hu) hzG _ (ys.drop G) (HDR.out G u hGN (below_and Bw le hu)) (fun y hy => HZ.out y (List.mem_of_mem_drop hy))).mono fun e w' ⟨r', e1, e2, e3⟩ => ⟨_, e1, fun z hz => by rw [hrest] at e2; simpa using (e2.app.below hz), below_and hu (Nat.le_refl _) e3⟩)
          have HS2 := (show Hid (∀ (u : World) (r1 : Array Value), Below wr.heap.size wr u → RApp Any u r1.toList AN → Calls Tryz.prog 14 #[.agg r1, .agg #[.int .i64 AN.1, .slice ae AN.2.1.length ce, .slice al' AN.2.2.1.length cl', .slice an AN.2.2.2.length cn]] u fun e w' => e = .returned (.bool true) ∧ Below wr.heap.size wr w') from fun u r1 hu g1 => (sameA_eq u r1.toList _ AN g1 (happ9.below hu)).mono fun e w' ⟨e1, e2⟩ => ⟨e1, below_and hu (Nat.le_refl _) e2⟩)
          have SK := (show Hid (∀ u, Below wr.heap.size wr u → u.cell? ⟨w3.heap.size, 0, none⟩ = some (.int .i64 AG.1) ∧ u.cell? ⟨w3.heap.size, 1, none⟩ = some (.slice be AG.2.1.length de) ∧ u.cell? ⟨w3.heap.size, 2, none⟩ = some (.slice bl AG.2.2.1.length dl) ∧ u.cell? ⟨w3.heap.size, 3, none⟩ = some (.slice bn AG.2.2.2.length dn') ∧ u.cell? ⟨bA, 0, none⟩ = some (.int .i64 AN.1) ∧ u.cell? ⟨bA, 1, none⟩ = some (.slice ae AN.2.1.length ce) ∧ u.cell? ⟨bA, 2, none⟩ = some (.slice al' AN.2.2.1.length cl') ∧ u.cell? ⟨bA, 3, none⟩ = some (.slice an AN.2.2.2.length cn)) from fun u hu => ⟨(rL.below hu).cell (j := 0) rfl, (rL.below hu).cell (j := 1) rfl, (rL.below hu).cell (j := 2) rfl, (rL.below hu).cell (j := 3) rfl, (rA9.below hu).cell (j := 0) rfl, (rA9.below hu).cell (j := 1) rfl, (rA9.below hu).cell (j := 2) rfl, (rA9.below hu).cell (j := 3) rfl⟩)
          have hcut := HCUT.out G hGN
          have hdw : Below wr.heap.size wr wr.drew := ⟨rfl, rfl, rfl, Nat.le_refl _, fun _ _ => rfl⟩
          have hql' : G ≤ q := by omega
          obtain ⟨VS, hVS⟩ : ∃ VS, VS = Value.slice (if cl = G then al else al.map (·.add (G * 4))) (N - G) (cl - G) := ⟨_, rfl⟩
          rw [← hVS] at HRu
          simp only [← hVS] at hcut
          clear rA9 happ9 hO rL hrest hzG hAG HST HGOT hVS
          try go_simp
          go_wp2_with fail
          go_region_held3 (fun u => u.cell? ⟨w3.heap.size, 0, none⟩ = some (.int .i64 AG.1) ∧ u.cell? ⟨w3.heap.size, 1, none⟩ = some (.slice be AG.2.1.length de) ∧ u.cell? ⟨w3.heap.size, 2, none⟩ = some (.slice bl AG.2.2.1.length dl) ∧ u.cell? ⟨w3.heap.size, 3, none⟩ = some (.slice bn AG.2.2.2.length dn') ∧ u.cell? ⟨bA, 0, none⟩ = some (.int .i64 AN.1) ∧ u.cell? ⟨bA, 1, none⟩ = some (.slice ae AN.2.1.length ce) ∧ u.cell? ⟨bA, 2, none⟩ = some (.slice al' AN.2.2.1.length cl') ∧ u.cell? ⟨bA, 3, none⟩ = some (.slice an AN.2.2.2.length cn))
            (first | (with_reducible exact SK.out w12 hB12) | (with_reducible exact SK.out w11 hB11) | (with_reducible exact SK.out wr (Below.refl _ _)) | (with_reducible exact SK.out wr.drew hdw) | go_keep)
            (first
              | (go_at_call 14; refine (HS2.out _ _ (by first | (with_reducible exact hB11) | (with_reducible exact hB11.drew)) (k11.out _ (by first | (with_reducible exact Below.refl _ _) | (with_reducible exact (Below.refl _ _).drew)))).mono ?_; rintro e w12 ⟨rfl, hB12⟩)
              | (go_at_call 15; refine (HRu.out _ (by first | (with_reducible exact Below.refl _ _) | (with_reducible exact hdw))).mono ?_; rintro e w11 ⟨r11, rfl, k11, hB11⟩))
          all_goals (
            go_wp2_with fail
            go_ret
            exact ⟨rfl, below_and Bw le hB12⟩)
end Go.Proofs.YteafgdidjdfiiaaGreat
end

section
namespace Go.Proofs.YteafgdidjdfiiaaGreat
open Go.ChangeShapes Go.WideShapes Go.ChangeAt Go.RowKit Oct

theorem wf_u8 {n : Int} (h : (Lit.int .u8 n).wf = true) : 0 ≤ n ∧ n ≤ 255 := bounds_u8 h

/-- What a slice of bytes reads as, and its datum. -/
def IsBytes {H : Type} (d : DataW H) (l : List Int) : Prop := (d = .nil ∧ l = []) ∨ ∃ spare, d = .slice (lits .u8 l) spare

theorem open_bytes_at {H : Type} {enc : TypeId × Value → H} {P : Program} {w : World} {base fuel : Nat} {held : Bool} {t e : TypeId} (ht : P.underlying t = some (.slice e)) (he : P.underlying e = some (.int .u8)) (hc : P.cellsOf e = 1)
    {v : Value} {x : DataW H × List MemPlace} (hf : DataW.trod enc P w base (fun _ => true) held fuel t [v] = some x) : ∃ l, Rd w v l ∧ IsBytes x.1 l := by
  rcases open_ints ht he hc hf with ⟨hcs, hx⟩ | ⟨a, len, cap, zs, hcs, _, hl, hm, hz, hx, hcell, hwz⟩
  · simp only [List.cons.injEq, and_true] at hcs
    subst hcs
    subst hx
    exact ⟨[], ⟨Byt.nil, none, 0, rfl, Nat.le_refl _, Nat.zero_le _, fun _ => ⟨rfl, rfl⟩, fun a ha => by cases ha⟩, .inl ⟨rfl, rfl⟩⟩
  · simp only [List.cons.injEq, and_true] at hcs
    subst hcs
    subst hx
    simp only [if_true] at hz
    have hlen : (bc (zs.take len)).length = len := by rw [bc_len, List.length_take]; omega
    refine ⟨zs.take len, ⟨fun y hy => wf_u8 (hwz y (List.mem_of_mem_take hy)), some a, cap, by rw [hlen], by rw [hlen]; exact hl, hm, fun e => (by cases e), fun b hb j u hu => ?_⟩, .inr ⟨_, rfl⟩⟩
    cases hb
    have hj : j < len := by
      rcases Nat.lt_or_ge j len with h | h
      · exact h
      · rw [List.getElem?_eq_none (by omega)] at hu; cases hu
    rw [hcell j (by omega)]
    rw [bc_getD _ _ (by rw [List.length_take]; omega)] at hu
    rw [← hu]
    simp [List.getD, hj]
theorem open_bytes {H : Type} {enc : TypeId × Value → H} {P : Program} {w : World} {base : Nat} {held : Bool} {t e : TypeId} (ht : P.underlying t = some (.slice e)) (he : P.underlying e = some (.int .u8)) (hc : P.cellsOf e = 1)
    {a : Option Addr} {len cap : Nat} {d : DataW H} {p : List MemPlace} (h : DataW.Trod enc P w base (fun _ => true) held t (.slice a len cap) d p) :
    ∃ l, Rd w (.slice a len cap) l ∧ IsBytes d l := by
  obtain ⟨fuel, hf⟩ := h
  have := open_bytes_at ht he hc (v := .slice a len cap) (by simpa [Value.cells] using hf)
  simpa using this

/-- A list of texts, and its datum. -/
def IsBytess {H : Type} (d : DataW H) (ll : List (List Int)) : Prop := (d = .nil ∧ ll = []) ∨ ∃ ds spare, d = .slice ds spare ∧ All2 IsBytes ds ll

theorem open_bytess_at {H : Type} {enc : TypeId × Value → H} {P : Program} {w : World} {base fuel : Nat} {held : Bool} {t u e : TypeId} (ht : P.underlying t = some (.slice u)) (hu : P.underlying u = some (.slice e)) (he : P.underlying e = some (.int .u8))
    (hcu : P.cellsOf u = 1) (hce : P.cellsOf e = 1) {v : Value} {x : DataW H × List MemPlace} (hf : DataW.trod enc P w base (fun _ => true) held fuel t [v] = some x) : ∃ ll, Rdl w v ll ∧ IsBytess x.1 ll := by
  rcases DataW.trod_slice ht hf with ⟨hcs, hx⟩ | ⟨a, len, cap, elems, rest, n, _, hcs, hx, _, hl, hm, hlen, hel, _, _⟩
  · simp only [List.cons.injEq, and_true] at hcs
    subst hcs
    subst hx
    exact ⟨[], ⟨[], ⟨none, 0, rfl, Nat.le_refl _, Nat.zero_le _, fun _ => ⟨rfl, rfl⟩, fun a ha => by cases ha⟩, trivial⟩, .inl ⟨rfl, rfl⟩⟩
  · simp only [List.cons.injEq, and_true] at hcs
    subst hcs
    subst hx
    rw [hcu] at hel
    have each : ∀ i, i < len → ∃ c l y, w.cell? (a.add i) = some c ∧ elems[i]? = some y ∧ Rd w c l ∧ IsBytes y.1 l := fun i hi => by
      have h1 := hel i hi
      rw [List.getElem?_eq_getElem (by omega), Nat.mul_one] at h1
      obtain ⟨cs, hc1, hc2⟩ := Option.bind_eq_some_iff.1 h1
      obtain ⟨c, rfl⟩ : ∃ c, cs = [c] := by
        have hlen1 := (World.cells?_some hc1).2.1
        match cs, hlen1 with
        | [c], _ => exact ⟨c, rfl⟩
      obtain ⟨l, hl1, hl2⟩ := open_bytes_at hu he hce hc2
      exact ⟨c, l, _, Go.ChangeShapes.cell_of_cells?_one hc1, List.getElem?_eq_getElem (by omega), hl1, hl2⟩
    obtain ⟨vs, ll, hv1, hv2, hv3⟩ : ∃ (vs : List Value) (ll : List (List Int)), vs.length = len ∧ ll.length = len ∧ ∀ i c l, vs[i]? = some c → ll[i]? = some l → w.cell? (a.add i) = some c ∧ Rd w c l ∧ ∀ y, elems[i]? = some y → IsBytes y.1 l := by
      clear hm hl hel hf
      have key : ∀ k, k ≤ len → ∃ (vs : List Value) (ll : List (List Int)), vs.length = k ∧ ll.length = k ∧ ∀ i c l, vs[i]? = some c → ll[i]? = some l → w.cell? (a.add i) = some c ∧ Rd w c l ∧ ∀ y, elems[i]? = some y → IsBytes y.1 l := by
        intro k
        induction k with
        | zero => exact fun _ => ⟨[], [], rfl, rfl, fun i c l h => by simp at h⟩
        | succ k ih =>
          intro hk
          obtain ⟨vs, ll, g1, g2, g3⟩ := ih (by omega)
          obtain ⟨c, l, y, e1, e2, e3, e4⟩ := each k (by omega)
          refine ⟨vs ++ [c], ll ++ [l], by simp [g1], by simp [g2], fun i c' l' hc' hl' => ?_⟩
          rcases Nat.lt_trichotomy i k with h | h | h
          · rw [List.getElem?_append_left (by omega)] at hc' hl'
            exact g3 i c' l' hc' hl'
          · subst h
            rw [List.getElem?_append_right (by omega), g1] at hc'
            rw [List.getElem?_append_right (by omega), g2] at hl'
            simp at hc' hl'
            subst hc' hl'
            exact ⟨e1, e3, fun y' hy' => by rw [e2] at hy'; cases hy'; exact e4⟩
          · rw [List.getElem?_eq_none (by simp; omega)] at hc'; cases hc'
      exact key len (Nat.le_refl _)
    refine ⟨ll, ⟨vs, ⟨some a, cap, by rw [hv1], by rw [hv1]; exact hl, hm, fun e => (by cases e), fun b hb j u hju => ?_⟩, All2.of_get (by omega) fun i c l hc hl => (hv3 i c l hc hl).2.1⟩, .inr ⟨_, _, rfl, All2.of_get (by simp; omega) fun i d l hd hl => ?_⟩⟩
    · cases hb
      have hj : j < vs.length := by
        rcases Nat.lt_or_ge j vs.length with h | h
        · exact h
        · rw [List.getElem?_eq_none h] at hju; cases hju
      exact (hv3 j u _ hju (List.getElem?_eq_getElem (by omega))).1
    · have hi : i < ll.length := by
        rcases Nat.lt_or_ge i ll.length with h | h
        · exact h
        · rw [List.getElem?_eq_none h] at hl; cases hl
      have he' : elems[i]? = some (elems[i]'(by omega)) := List.getElem?_eq_getElem (by omega)
      have := (hv3 i _ l (List.getElem?_eq_getElem (by omega)) hl).2.2 _ he'
      rw [List.getElem?_map, he'] at hd
      simp at hd
      rw [← hd]
      exact this
theorem open_bytess {H : Type} {enc : TypeId × Value → H} {P : Program} {w : World} {base : Nat} {held : Bool} {t u e : TypeId} (ht : P.underlying t = some (.slice u)) (hu : P.underlying u = some (.slice e)) (he : P.underlying e = some (.int .u8))
    (hcu : P.cellsOf u = 1) (hce : P.cellsOf e = 1) {a : Option Addr} {len cap : Nat} {d : DataW H} {p : List MemPlace} (h : DataW.Trod enc P w base (fun _ => true) held t (.slice a len cap) d p) :
    ∃ ll, Rdl w (.slice a len cap) ll ∧ IsBytess d ll := by
  obtain ⟨fuel, hf⟩ := h
  have := open_bytess_at ht hu he hcu hce (v := .slice a len cap) (by simpa [Value.cells] using hf)
  simpa using this

/-- An array of two numbers. -/
theorem open_ints2 {H : Type} {enc : TypeId × Value → H} {P : Program} {w : World} {base b0 : Nat} {r : Reach} {held : Bool} {t e : TypeId} (ht : P.underlying t = some (.array 2 e)) (he : P.underlying e = some (.int .i64)) (hc : P.cellsOf e = 1) (hct : P.cellsOf t = 2)
    {v : Value} {d : DataW H} {p : List MemPlace} (hv : Value.okWide P w r b0 t v) (h : DataW.Trod enc P w base (fun _ => true) held t v d p) : ∃ a b, v = .agg #[.int .i64 a, .int .i64 b] := by
  simp only [Value.okWide, ht] at hv
  obtain ⟨cs, rfl, hsz, _⟩ := hv
  rw [hct] at hsz
  obtain ⟨c0, c1, rfl⟩ : ∃ c0 c1, cs = #[c0, c1] := by
    obtain ⟨l⟩ := cs
    match l, hsz with
    | [c0, c1], _ => exact ⟨c0, c1, rfl⟩
  obtain ⟨fuel, hf⟩ := h
  obtain ⟨xs, m, _, _, _, hx, hel⟩ := DataW.trod_array ht hf
  have h0 := hel 0 (by omega)
  have h1 := hel 1 (by omega)
  rw [hc] at h0 h1
  simp only [Value.cells] at h0 h1
  rw [List.getElem?_eq_getElem (by omega)] at h0 h1
  obtain ⟨a, e0, _⟩ := DataW.trod_int he (by simpa using h0)
  obtain ⟨b, e1, _⟩ := DataW.trod_int he (by simpa using h1)
  simp at e0 e1
  exact ⟨a, b, by rw [e0, e1]⟩

theorem IsBytes.reach {H : Type} {P : Program} {ts : List TypeId} {ds : List (DataW H)} (h : (DataW.weightsEach P ts ds).all (· ≤ reachBytes) = true) {j : Nat} {t e : TypeId} {d : DataW H} {l : List Int} (hd : IsBytes d l)
    (ht : ts[j]? = some t) (hj : ds[j]? = some d) (hu : P.underlying t = some (.slice e)) (hb : P.bytesOf e = 1) : l.length ≤ 140737488351232 := by
  rcases hd with ⟨_, rfl⟩ | ⟨sp, rfl⟩
  · simp
  · have := sized_slice h ht hj hu
    rw [hb] at this
    simp only [lits, List.length_map, reachBytes] at this
    omega
#print axioms open_bytes
end Go.Proofs.YteafgdidjdfiiaaGreat
end

section
namespace Go.Proofs.YteafgdidjdfiiaaGreat
open Go.ChangeShapes Go.RowKit Oct

theorem bulk_one {H : Type} (d : DataW H) : 1 ≤ Rows.uptoBulk d := by
  cases d with
  | lit l => cases l <;> simp [Rows.uptoBulk]
  | nil => simp [Rows.uptoBulk]
  | ptr d => simp [Rows.uptoBulk]
  | slice elems spare => simp [Rows.uptoBulk]
  | agg parts => simp [Rows.uptoBulk]
  | iface t d => simp [Rows.uptoBulk]
  | map entries => simp [Rows.uptoBulk]
  | held h => simp [Rows.uptoBulk]
theorem bulk_part {H : Type} {d : DataW H} {l : List (DataW H)} (h : d ∈ l) : Rows.uptoBulk d ≤ Rows.uptoBulkAll l := by
  induction l with
  | nil => cases h
  | cons x r ih =>
    simp only [Rows.uptoBulkAll]
    cases List.mem_cons.1 h with
    | inl e => subst e; omega
    | inr e => have := ih e; omega
theorem bulk_len {H : Type} (l : List (DataW H)) : l.length ≤ Rows.uptoBulkAll l := by
  induction l with
  | nil => simp [Rows.uptoBulkAll]
  | cons x r ih => have := bulk_one x; simp only [Rows.uptoBulkAll, List.length_cons]; omega
theorem bulk_bytes {H : Type} {d : DataW H} {l : List Int} (h : IsBytes d l) : l.length + 1 ≤ Rows.uptoBulk d := by
  rcases h with ⟨rfl, rfl⟩ | ⟨sp, rfl⟩
  · simp [Rows.uptoBulk]
  · have h1 := bulk_len (H := H) (lits .u8 l)
    simp only [lits, List.length_map] at h1
    simp only [Rows.uptoBulk, lits]
    omega
theorem bulk_all {H : Type} {l : List (DataW H)} (hk : Rows.uptoSmall H l = true) : Rows.uptoBulkAll l ≤ 1048576 := of_decide_eq_true hk
/-- Each of the arguments. -/
theorem bulk_bytes_in {H : Type} {l : List (DataW H)} (hk : Rows.uptoSmall H l = true) {d : DataW H} {b : List Int} (h : IsBytes d b) (hd : d ∈ l) : b.length ≤ 1048576 := by
  have h1 := bulk_all hk
  have h2 := bulk_part hd
  have h3 := bulk_bytes h
  omega
theorem bulk_list {H : Type} : ∀ {ds : List (DataW H)} {ll : List (List Int)}, All2 IsBytes ds ll → tot ll ≤ Rows.uptoBulkAll ds
  | [], [], _ => Nat.zero_le _
  | d :: ds, l :: ll, h => by
    have h1 := bulk_bytes h.1
    have h2 := bulk_list h.2
    simp only [tot, Rows.uptoBulkAll]
    omega
  | [], _ :: _, h => h.elim
  | _ :: _, [], h => h.elim
theorem bulk_bytess {H : Type} {d : DataW H} {ll : List (List Int)} (h : IsBytess d ll) : tot ll + 1 ≤ Rows.uptoBulk d := by
  rcases h with ⟨rfl, rfl⟩ | ⟨ds, sp, rfl, h⟩
  · simp [Rows.uptoBulk, tot]
  · have := bulk_list h
    simp only [Rows.uptoBulk]
    omega
theorem bulk_bytess_in {H : Type} {l : List (DataW H)} (hk : Rows.uptoSmall H l = true) {d : DataW H} {b : List (List Int)} (h : IsBytess d b) (hd : d ∈ l) : tot b ≤ 1048576 := by
  have h1 := bulk_all hk
  have h2 := bulk_part hd
  have h3 := bulk_bytess h
  omega
end Go.Proofs.YteafgdidjdfiiaaGreat
end
