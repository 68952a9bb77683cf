/- catenarylaw04.BallotMeet: its walk. -/
import Derived.Test.YtcajelodbfpkfabBAlive
namespace Go.Proofs.Ytcajelodbfpkfab
open Go.RowKit Oct Bal

theorem size_run (t : TypeId) (n : Nat) (h1 : (Try.prog.info? t).map (·.size) = some n) (u : World) : (sizeOf t).run Try.prog u = .ok n u := by
  cases hq : Try.prog.info? t with
  | none => rw [hq] at h1; cases h1
  | some i0 =>
    rw [hq] at h1
    have h2 : i0.size = n := by simpa using h1
    simp [sizeOf, typeInfo, hq, h2]
theorem run_ixA (b i : Nat) (hi : i < 2) (u : World) : (Instr.indexAt 26 (.pointer (some ⟨b, 0, none⟩)) (.int .i64 (i : Int))).run Try.prog u = .ok (.pointer (some ⟨b, i * 16, none⟩)) u := by
  have ht : Try.prog.underlying 26 = some (.array (Try.prog.arrayLen 26) (Try.prog.elem 26)) := by kernel_rfl
  have hn : Try.prog.arrayLen 26 = 2 := by kernel_rfl
  have hs : (sizeOf (Try.prog.elem 26)).run Try.prog u = .ok 16 u := size_run _ _ (by kernel_rfl) u
  rw [run_indexAt_array u 26 _ .i64 i ht, hn, if_pos (by omega), hs]
  simp only [Result.andThen, Addr.add_mid]
  simp
theorem run_ixB (b o i : Nat) (hi : i < 16) (u : World) : (Instr.indexAt 25 (.pointer (some ⟨b, o, none⟩)) (.int .i64 (i : Int))).run Try.prog u = .ok (.pointer (some ⟨b, o + i, none⟩)) u := by
  have ht : Try.prog.underlying 25 = some (.array (Try.prog.arrayLen 25) (Try.prog.elem 25)) := by kernel_rfl
  have hn : Try.prog.arrayLen 25 = 16 := by kernel_rfl
  have hs : (sizeOf (Try.prog.elem 25)).run Try.prog u = .ok 1 u := size_run _ _ (by kernel_rfl) u
  rw [run_indexAt_array u 25 _ .i64 i ht, hn, if_pos (by omega), hs]
  simp only [Result.andThen, Addr.add_mid]
  simp
def bZ : List Value := List.replicate 32 (.bool false)
theorem zeroA (u : World) : (zeroValue 26).run Try.prog u = .ok (.agg bZ.toArray) u := by
  have h1 : (Try.prog.info? 26).map (·.zero) = some (some (.agg bZ.toArray)) := by kernel_rfl
  cases hq : Try.prog.info? 26 with
  | none => rw [hq] at h1; cases h1
  | some i0 =>
    rw [hq] at h1
    have h2 : i0.zero = some (.agg bZ.toArray) := by simpa using h1
    simp [zeroValue, typeInfo, hq, h2]
theorem sizA : (Try.prog.info? 26).map (·.size) = some 32 := by kernel_rfl
def bs (l : List Bool) : List Value := l.map Value.bool
theorem bs_one (l : List Bool) : ∀ u ∈ bs l, u.oneCell' = true := by
  intro u hu
  obtain ⟨x, _, rfl⟩ := List.mem_map.1 hu
  rfl
theorem bZ_bs : bZ = bs (List.replicate 32 false) := by simp [bZ, bs]

theorem run_index0 (a b : Option Addr) (n m c d : Nat) (u : World) : (Instr.index 27 (.agg #[.slice a n c, .slice b m d]) (.int .i64 0)).run Try.prog u = .ok (.slice a n c) u := by
  have ht : Try.prog.underlying 27 = some (.array 2 22) := by kernel_rfl
  have h1 : (Try.prog.info? 22).map (·.size) = some 1 := by kernel_rfl
  cases hq : Try.prog.info? 22 with
  | none => rw [hq] at h1; cases h1
  | some i0 =>
    rw [hq] at h1
    have h2 : i0.size = 1 := by simpa using h1
    simp [Instr.index, part, run_underlying ht, sizeOf, typeInfo, hq, h2, asIntOf]
theorem run_index1 (a b : Option Addr) (n m c d : Nat) (u : World) : (Instr.index 27 (.agg #[.slice a n c, .slice b m d]) (.int .i64 1)).run Try.prog u = .ok (.slice b m d) u := by
  have ht : Try.prog.underlying 27 = some (.array 2 22) := by kernel_rfl
  have h1 : (Try.prog.info? 22).map (·.size) = some 1 := by kernel_rfl
  cases hq : Try.prog.info? 22 with
  | none => rw [hq] at h1; cases h1
  | some i0 =>
    rw [hq] at h1
    have h2 : i0.size = 1 := by simpa using h1
    simp [Instr.index, part, run_underlying ht, sizeOf, typeInfo, hq, h2, asIntOf]
theorem bs_len (l : List Bool) : (bs l).length = l.length := by simp [bs]
theorem bs_set (l : List Bool) (j : Nat) : (bs l).set j (.bool true) = bs (l.set j true) := by simp [bs, List.map_set]
theorem bs_get {l : List Bool} {j : Nat} {x : Bool} (h : l[j]? = some x) : (bs l)[j]? = some (.bool x) := by simp [bs, h]
theorem sizB : (Try.prog.info? 4).map (·.size) = some 1 := by kernel_rfl
theorem sizC : (Try.prog.info? 28).map (·.size) = some 2 := by kernel_rfl
theorem run_ixC (b i : Nat) (hi : i < 2) (u : World) : (Instr.indexAt 28 (.pointer (some ⟨b, 0, none⟩)) (.int .i64 (i : Int))).run Try.prog u = .ok (.pointer (some ⟨b, i, none⟩)) u := by
  have ht : Try.prog.underlying 28 = some (.array (Try.prog.arrayLen 28) (Try.prog.elem 28)) := by kernel_rfl
  have hn : Try.prog.arrayLen 28 = 2 := by kernel_rfl
  have hs : (sizeOf (Try.prog.elem 28)).run Try.prog u = .ok 1 u := size_run _ _ (by kernel_rfl) u
  rw [run_indexAt_array u 28 _ .i64 i ht, hn, if_pos (by omega), hs]
  simp only [Result.andThen, Addr.add_mid]
  simp
theorem below_setR2 {B : Nat} {w wr wr' : World} {b : Nat} (h : Below B w wr) (hB : B ≤ w.heap.size) (hg : wr.grownBy wr' (some b)) (hb : B ≤ b) : Below B w wr' :=
  h.trans (grown_below hg (Nat.le_trans hB h.size) (fun k hk => by cases hk; exact hb))
theorem k_lt {l : List Bool} {j : Nat} (h : l.length = 32) (hj : j < 32) : j < (bs l).length := by rw [bs_len, h]; exact hj
theorem x_nat {x n : Int} (h0 : ¬ x < 0) (h1 : x < n) (hn : n ≤ 16) : ∃ r : Nat, x = (r : Int) ∧ r < 16 := ⟨x.toNat, by omega, by omega⟩
theorem i_lt {a b : Nat} (h : a < b) : (a : Int) < (b : Int) := by omega
def Inv (k : Nat) (c0 c1 d : Int) : Prop := 0 ≤ c0 ∧ c0 ≤ k ∧ 0 ≤ c1 ∧ c1 ≤ k ∧ 0 ≤ d ∧ d ≤ k ∧ c0 + c1 ≤ d + k
theorem Inv.tt {k : Nat} {c0 c1 d : Int} (h : Inv k c0 c1 d) : Inv (k + 1) (c0 + 1) (c1 + 1) (d + 1) := by unfold Inv at *; omega
theorem Inv.tf {k : Nat} {c0 c1 d : Int} (h : Inv k c0 c1 d) : Inv (k + 1) (c0 + 1) c1 d := by unfold Inv at *; omega
theorem Inv.ft {k : Nat} {c0 c1 d : Int} (h : Inv k c0 c1 d) : Inv (k + 1) c0 (c1 + 1) d := by unfold Inv at *; omega
theorem Inv.ff {k : Nat} {c0 c1 d : Int} (h : Inv k c0 c1 d) : Inv (k + 1) c0 c1 d := by unfold Inv at *; omega
theorem Inv.bd {k : Nat} {c0 c1 d : Int} (h : Inv k c0 c1 d) (hk : k ≤ 16) : 0 ≤ c0 ∧ c0 ≤ 16 ∧ 0 ≤ c1 ∧ c1 ≤ 16 ∧ 0 ≤ d ∧ d ≤ 16 := by unfold Inv at *; omega
theorem Inv.fin {k : Nat} {c0 c1 d : Int} (h : Inv k c0 c1 d) (hr : rgt (k : Int) = true) (h0 : ¬ c0 < quo k) (h1 : ¬ c1 < quo k) : wea k ≤ d ∧ fau k < d := by
  have e1 := quo_yes hr
  have e2 := fau_three hr
  have e3 := wea_yes hr
  unfold Inv at h
  omega
theorem meas1 {s k : Nat} (h : k < s) : s - (intOf (.int .i64 ((k : Int) + 1))).toNat < s - (intOf (.int .i64 (k : Int))).toNat := by
  simp only [intOf]
  omega

set_option maxRecDepth 10000 in
set_option maxHeartbeats 600000 in
theorem meet_any (w : World) (n : Int) (v : Value) (la : List Int) (u : Value) (lb : List Int) (hra : Rdi w v la) (hrb : Rdi w u lb) (hl : la.length ≤ 17592186044416) (hlb : lb.length ≤ 17592186044416) : Calls Try.prog 3 #[.int .i64 n, v, u] w fun e w' => e = .returned (.bool true) ∧ Below w.heap.size w w' := by
  have le := Nat.le_refl w.heap.size
  obtain ⟨ao0, ca0, rfl, hca0⟩ := hra.form
  obtain ⟨au0, cu0, rfl, hcu0⟩ := hrb.form
  have hzA := zeroA
  obtain ⟨Z, hZ⟩ : ∃ Z, Z = bZ := ⟨_, rfl⟩
  rw [← hZ] at hzA
  have HZ := (show Hid (Z = bs (List.replicate 32 false)) from hZ.trans bZ_bs)
  have hsz : (Try.prog.info? 26).map (·.size) = some Z.length := by rw [HZ.out]; exact sizA
  have hone : ∀ u ∈ Z, u.oneCell' = true := by rw [HZ.out]; exact bs_one _
  have HSZ := (show Hid ((Try.prog.info? 26).map (·.size) = some Z.length) from hsz)
  have HON := (show Hid (∀ u ∈ Z, u.oneCell' = true) from hone)
  clear hZ hsz hone
  go_enter Try.func3, Try.ntmps3
  go_wp2_with fail
  refine (alive_any _).mono ?_
  rintro e w1 ⟨rfl, B1⟩
  have r1 := hra.below B1
  have s1 := hrb.below B1
  clear hra hrb
  by_cases hr : rgt n = true
  · have hn := rgt_le hr
    go_wp2_with (first | (go_at_call 6; refine (right_any _ _).mono ?_; rintro e w1 ⟨rfl, rfl⟩; rw [hr]) | (refine wl_store (by rfl) 26 _ _ (by rfl) w1.heap.size Z (by rfl) (by rfl) 26 Z (heap_alloc_new w1 _) rfl HSZ.out HON.out ?_; intro w2 hr2 hg2))
    rw [HZ.out] at hr2
    have hb2 : Below w1.heap.size w1 w2 := (below_alloc w1 _).trans (grown_below hg2 (by simp) (fun k hk => by cases hk; exact Nat.le_refl _))
    obtain ⟨g, hg⟩ : ∃ g, g = w1.heap.size := ⟨_, rfl⟩
    rw [← hg] at hr2 ⊢
    clear hg2 HZ HSZ HON hzA hca0 hcu0
    have hix0 := run_index0
    have hix1 := run_index1
    have hgw : w1.heap.size ≤ g := by omega
    have HG := (show Hid (g = w1.heap.size) from hg)
    clear hg
    go_loopw [25] (fun i wr => ∃ (k : Nat) (l : List Bool), k ≤ 2 ∧ i = .int .i64 k ∧ l.length = 32 ∧ Hid (Row wr g 26 (bs l)) ∧ Below w1.heap.size w1 wr) (fun i _ => 2 - (intOf i).toNat)
    case atStart => exact ⟨0, _, by decide, rfl, by simp, hr2, hb2⟩
    case round =>
      obtain ⟨k, l, hk, rfl, hll, hrow, hbel⟩ := hrel
      rcases (show k = 0 ∨ k = 1 ∨ k = 2 by omega) with rfl | rfl | hk2
      · by_cases hne : 0 < la.length
        · obtain ⟨b0, off, cc, hvv, hc1, hc2, hb0, hcell⟩ := r1.at hne
          injection hvv with hva _ hvc
          subst hva hvc
          have HC := (show Hid (∀ j, j < la.length → w1.cell? ⟨b0, off + j, none⟩ = some (.int .i64 (la.getD j 0))) from hcell)
          clear hcell hc1 hc2
          have hixA : ∀ u : World, (Instr.indexAt 26 (.pointer (some ⟨g, 0, none⟩)) (.int .i64 0)).run Try.prog u = .ok (.pointer (some ⟨g, 0, none⟩)) u := fun u => run_ixA g 0 (by decide) u
          go_wp2_with fail
          go_loopw [31] (fun i wr => ∃ (m : Nat) (l : List Bool), m ≤ la.length ∧ i = .int .i64 m ∧ l.length = 32 ∧ Hid (Row wr g 26 (bs l)) ∧ Below w1.heap.size w1 wr) (fun i _ => la.length - (intOf i).toNat)
          case atStart => exact ⟨0, l, Nat.zero_le _, rfl, hll, hrow, hbel⟩
          case round =>
            obtain ⟨m, l, hm, rfl, hll, hrow, hbel⟩ := hrel
            by_cases hmL : m < la.length
            · obtain ⟨x, hx⟩ : ∃ x, x = la.getD m 0 := ⟨_, rfl⟩
              have hcx : wr.cell? ⟨b0, off + m, none⟩ = some (.int .i64 x) := (hbel.cell (p := ⟨b0, off + m, none⟩) hb0).trans (by rw [hx]; exact HC.out m hmL)
              have i1 : (m : Int) < (la.length : Int) := i_lt hmL
              clear hx
              by_cases hx0 : x < 0
              · go_wp2_with fail
                go_roundw
                case rel => exact ⟨m + 1, l, hmL, by go_num, hll, hrow, hbel⟩
                case measure => exact meas1 hmL
              by_cases hx1 : x < n
              · obtain ⟨r, rfl, hr16⟩ := x_nat hx0 hx1 hn.2
                have hixB : ∀ u : World, (Instr.indexAt 25 (.pointer (some ⟨g, 0, none⟩)) (.int .i64 (r : Int))).run Try.prog u = .ok (.pointer (some ⟨g, 0 + r, none⟩)) u := fun u => run_ixB g 0 r hr16 u
                have hj : 0 + r < (bs l).length := k_lt hll (by omega)
                go_wp2_with (refine wl_set rfl 4 _ _ rfl g (0 + r) (.bool true) (by first | rfl | (simp [Act.eval]; done)) (by first | rfl | (simp [Act.eval]; done)) 26 (bs l) hrow.out hj sizB rfl ?_; intro w5 hrow5 hg5)
                rw [bs_set] at hrow5
                have hB5 := below_setR2 hbel (Nat.le_refl _) hg5 hgw
                have hl5 : (l.set (0 + r) true).length = 32 := by rw [List.length_set]; exact hll
                clear hixB hj hg5 hcx
                go_wp2_with fail
                go_roundw
                case rel => exact ⟨m + 1, _, hmL, by go_num, hl5, hrow5, hB5⟩
                case measure => exact meas1 hmL
              · go_wp2_with fail
                go_roundw
                case rel => exact ⟨m + 1, l, hmL, by go_num, hll, hrow, hbel⟩
                case measure => exact meas1 hmL
            · have i1 : ¬ (m : Int) < (la.length : Int) := by omega
              go_wp2_with fail
              go_roundw
              case rel => exact ⟨1, l, by decide, by first | rfl | go_num, hll, hrow, hbel⟩
              case measure => simp [intOf]
        · have hL0 : la.length = 0 := by omega
          rw [hL0]
          go_wp2_with fail
          refine wp_loop_rounds 1 ?_; rw [rounds_succ]
          go_wp2_with fail
          go_roundw
          case rel => exact ⟨1, l, by decide, by first | rfl | go_num, hll, hrow, hbel⟩
          case measure => simp [intOf]
      · by_cases hne : 0 < lb.length
        · obtain ⟨b0, off, cc, hvv, hc1, hc2, hb0, hcell⟩ := s1.at hne
          injection hvv with hva _ hvc
          subst hva hvc
          have HC := (show Hid (∀ j, j < lb.length → w1.cell? ⟨b0, off + j, none⟩ = some (.int .i64 (lb.getD j 0))) from hcell)
          clear hcell hc1 hc2
          have hixA : ∀ u : World, (Instr.indexAt 26 (.pointer (some ⟨g, 0, none⟩)) (.int .i64 1)).run Try.prog u = .ok (.pointer (some ⟨g, 16, none⟩)) u := fun u => run_ixA g 1 (by decide) u
          go_wp2_with fail
          go_loopw [31] (fun i wr => ∃ (m : Nat) (l : List Bool), m ≤ lb.length ∧ i = .int .i64 m ∧ l.length = 32 ∧ Hid (Row wr g 26 (bs l)) ∧ Below w1.heap.size w1 wr) (fun i _ => lb.length - (intOf i).toNat)
          case atStart => exact ⟨0, l, Nat.zero_le _, rfl, hll, hrow, hbel⟩
          case round =>
            obtain ⟨m, l, hm, rfl, hll, hrow, hbel⟩ := hrel
            by_cases hmL : m < lb.length
            · obtain ⟨x, hx⟩ : ∃ x, x = lb.getD m 0 := ⟨_, rfl⟩
              have hcx : wr.cell? ⟨b0, off + m, none⟩ = some (.int .i64 x) := (hbel.cell (p := ⟨b0, off + m, none⟩) hb0).trans (by rw [hx]; exact HC.out m hmL)
              have i1 : (m : Int) < (lb.length : Int) := i_lt hmL
              clear hx
              by_cases hx0 : x < 0
              · go_wp2_with fail
                go_roundw
                case rel => exact ⟨m + 1, l, hmL, by go_num, hll, hrow, hbel⟩
                case measure => exact meas1 hmL
              by_cases hx1 : x < n
              · obtain ⟨r, rfl, hr16⟩ := x_nat hx0 hx1 hn.2
                have hixB : ∀ u : World, (Instr.indexAt 25 (.pointer (some ⟨g, 16, none⟩)) (.int .i64 (r : Int))).run Try.prog u = .ok (.pointer (some ⟨g, 16 + r, none⟩)) u := fun u => run_ixB g 16 r hr16 u
                have hj : 16 + r < (bs l).length := k_lt hll (by omega)
                go_wp2_with (refine wl_set rfl 4 _ _ rfl g (16 + r) (.bool true) (by first | rfl | (simp [Act.eval]; done)) (by first | rfl | (simp [Act.eval]; done)) 26 (bs l) hrow.out hj sizB rfl ?_; intro w5 hrow5 hg5)
                rw [bs_set] at hrow5
                have hB5 := below_setR2 hbel (Nat.le_refl _) hg5 hgw
                have hl5 : (l.set (16 + r) true).length = 32 := by rw [List.length_set]; exact hll
                clear hixB hj hg5 hcx
                go_wp2_with fail
                go_roundw
                case rel => exact ⟨m + 1, _, hmL, by go_num, hl5, hrow5, hB5⟩
                case measure => exact meas1 hmL
              · go_wp2_with fail
                go_roundw
                case rel => exact ⟨m + 1, l, hmL, by go_num, hll, hrow, hbel⟩
                case measure => exact meas1 hmL
            · have i1 : ¬ (m : Int) < (lb.length : Int) := by omega
              go_wp2_with fail
              go_roundw
              case rel => exact ⟨2, l, by decide, by first | rfl | go_num, hll, hrow, hbel⟩
              case measure => simp [intOf]
        · have hL0 : lb.length = 0 := by omega
          rw [hL0]
          go_wp2_with fail
          refine wp_loop_rounds 1 ?_; rw [rounds_succ]
          go_wp2_with fail
          go_roundw
          case rel => exact ⟨2, l, by decide, by first | rfl | go_num, hll, hrow, hbel⟩
          case measure => simp [intOf]
      · have j2 : ¬ ((k : Int) < 2) := by omega
        clear hk2 hk hix0 hix1 r1 s1 hl hlb
        have HNr := (show Hid (rgt n = true) from hr)
        obtain ⟨N, hN⟩ : ∃ N : Nat, n = (N : Int) := ⟨n.toNat, by omega⟩
        subst hN
        have hN16 : N ≤ 16 := by omega
        go_wp2_with fail
        have H0 := Row.new wr 28 [.int .i64 0, .int .i64 0]
        have G0 := hrow.out.below (below_alloc wr (.cells #[.int .i64 0, .int .i64 0] 28))
        have hgh := hrow.out.lt
        have hb0 := below_and hbel (Nat.le_refl _) (below_alloc wr (.cells #[.int .i64 0, .int .i64 0] 28))
        have hw1h : w1.heap.size ≤ wr.heap.size := hbel.size
        obtain ⟨h, hh⟩ : ∃ h, h = wr.heap.size := ⟨_, rfl⟩
        rw [← hh] at H0 hgh hw1h ⊢
        have H0' : Row (wr.alloc (.cells #[.int .i64 0, .int .i64 0] 28)) h 28 [.int .i64 0, .int .i64 0] := H0
        clear hh H0 hbel hrow
        generalize wr.alloc (.cells #[.int .i64 0, .int .i64 0] 28) = w3 at H0' G0 hb0 ⊢
        have hngh : g ≠ h := Nat.ne_of_lt hgh
        have A0 : ∀ u : World, (Instr.indexAt 26 (.pointer (some ⟨g, 0, none⟩)) (.int .i64 0)).run Try.prog u = .ok (.pointer (some ⟨g, 0, none⟩)) u := fun u => run_ixA g 0 (by decide) u
        have A1 : ∀ u : World, (Instr.indexAt 26 (.pointer (some ⟨g, 0, none⟩)) (.int .i64 1)).run Try.prog u = .ok (.pointer (some ⟨g, 16, none⟩)) u := fun u => run_ixA g 1 (by decide) u
        have C0 : ∀ u : World, (Instr.indexAt 28 (.pointer (some ⟨h, 0, none⟩)) (.int .i64 0)).run Try.prog u = .ok (.pointer (some ⟨h, 0, none⟩)) u := fun u => run_ixC h 0 (by decide) u
        have C1 : ∀ u : World, (Instr.indexAt 28 (.pointer (some ⟨h, 0, none⟩)) (.int .i64 1)).run Try.prog u = .ok (.pointer (some ⟨h, 1, none⟩)) u := fun u => run_ixC h 1 (by decide) u
        go_loopw [13, 14] (fun b r wq => ∃ (m : Nat) (c0 c1 d : Int), m ≤ N ∧ r = .int .i64 m ∧ b = .int .i64 d ∧ Hid (Inv m c0 c1 d) ∧ Hid (Row wq h 28 [.int .i64 c0, .int .i64 c1]) ∧ Hid (Row wq g 26 (bs l)) ∧ Below w1.heap.size w1 wq) (fun _ r _ => N - (intOf r).toNat)
        case atStart => exact ⟨0, 0, 0, 0, Nat.zero_le _, rfl, rfl, (by unfold Inv; decide : Inv 0 0 0 0), H0', G0, hb0⟩
        case round =>
          obtain ⟨m, c0, c1, d, hm, rfl, rfl, hI, hH, hG, hbel⟩ := hrel
          have hbd := hI.out.bd (Nat.le_trans hm hN16)
          have p0 : wr.cell? ⟨h, 0, none⟩ = some (.int .i64 c0) := hH.out.cell rfl
          have p1 : wr.cell? ⟨h, 1, none⟩ = some (.int .i64 c1) := hH.out.cell rfl
          by_cases hmN : m < N
          · have i1 : (m : Int) < (N : Int) := i_lt hmN
            have hm16 : m < 16 := Nat.lt_of_lt_of_le hmN hN16
            obtain ⟨x0, hx0⟩ : ∃ x, l[m]? = some x := ⟨_, List.getElem?_eq_getElem (by rw [hll]; exact Nat.lt_trans hm16 (by decide))⟩
            obtain ⟨x1, hx1⟩ : ∃ x, l[16 + m]? = some x := ⟨_, List.getElem?_eq_getElem (by rw [hll]; exact Nat.add_lt_add_left hm16 16)⟩
            have X0 := bs_get hx0
            have X1 := bs_get hx1
            have HX := (show Hid ((bs l)[m]? = some (.bool x0) ∧ (bs l)[16 + m]? = some (.bool x1)) from ⟨X0, X1⟩)
            have q0 : wr.cell? ⟨g, m, none⟩ = some (.bool x0) := hG.out.cell X0
            have q1 : wr.cell? ⟨g, 16 + m, none⟩ = some (.bool x1) := hG.out.cell X1
            have Bk0 : ∀ u : World, (Instr.indexAt 25 (.pointer (some ⟨g, 0, none⟩)) (.int .i64 (m : Int))).run Try.prog u = .ok (.pointer (some ⟨g, m, none⟩)) u := fun u => by have := run_ixB g 0 m hm16 u; rwa [Nat.zero_add] at this
            have Bk1 : ∀ u : World, (Instr.indexAt 25 (.pointer (some ⟨g, 16, none⟩)) (.int .i64 (m : Int))).run Try.prog u = .ok (.pointer (some ⟨g, 16 + m, none⟩)) u := fun u => run_ixB g 16 m hm16 u
            clear hx0 hx1 X0 X1
            cases x0
            · cases x1
              · go_wp2_with fail
                go_roundw
                case rel => exact ⟨m + 1, c0, c1, d, hmN, by go_num, rfl, hI.out.ff, hH, hG, hbel⟩
                case measure => exact meas1 hmN
              · go_wp2_with (first | (refine wl_set rfl 3 _ _ rfl h 1 (.int .i64 (c1 + 1)) (by first | rfl | (simp [Act.eval]; done)) (by first | rfl | (simp [Act.eval]; done)) 28 [.int .i64 c0, .int .i64 c1] hH.out (show 1 < 2 by decide) Try.sizI rfl ?_; intro w6 hr6 hg6; clear p0 p1 q0 q1; have H6 : Row w6 h 28 [.int .i64 c0, .int .i64 (c1 + 1)] := hr6.out; have G6 := Row.grown hG.out hg6 (fun e => hngh (Option.some.inj e).symm); have B6 := below_setR2 hbel (Nat.le_refl _) hg6 hw1h; have q0 := G6.cell HX.out.1; have q1 := G6.cell HX.out.2; have HH6 := (show Hid (Row w6 h 28 [.int .i64 c0, .int .i64 (c1 + 1)]) from H6); have HG6 := (show Hid (Row w6 g 26 (bs l)) from G6); clear H6 G6 hr6 hg6))
                go_roundw
                case rel => exact ⟨m + 1, c0, (c1 + 1), d, hmN, by go_num, rfl, hI.out.ft, HH6, HG6, B6⟩
                case measure => exact meas1 hmN
            · cases x1
              · go_wp2_with (first | (refine wl_set rfl 3 _ _ rfl h 0 (.int .i64 (c0 + 1)) (by first | rfl | (simp [Act.eval]; done)) (by first | rfl | (simp [Act.eval]; done)) 28 [.int .i64 c0, .int .i64 c1] hH.out (show 0 < 2 by decide) Try.sizI rfl ?_; intro w5 hr5 hg5; clear p0 p1 q0 q1; have H5 : Row w5 h 28 [.int .i64 (c0 + 1), .int .i64 c1] := hr5.out; have G5 := hG.out.grown hg5 (fun e => hngh (Option.some.inj e).symm); have B5 := below_setR2 hbel (Nat.le_refl _) hg5 hw1h; have p0 : w5.cell? ⟨h, 0, none⟩ = some (.int .i64 (c0 + 1)) := H5.cell rfl; have p1 : w5.cell? ⟨h, 1, none⟩ = some (.int .i64 c1) := H5.cell rfl; have q0 := G5.cell HX.out.1; have q1 := G5.cell HX.out.2; have HH5 := (show Hid (Row w5 h 28 [.int .i64 (c0 + 1), .int .i64 c1]) from H5); have HG5 := (show Hid (Row w5 g 26 (bs l)) from G5); clear H5 G5 hr5 hg5))
                go_roundw
                case rel => exact ⟨m + 1, (c0 + 1), c1, d, hmN, by go_num, rfl, hI.out.tf, HH5, HG5, B5⟩
                case measure => exact meas1 hmN
              · go_wp2_with (first | (refine wl_set rfl 3 _ _ rfl h 0 (.int .i64 (c0 + 1)) (by first | rfl | (simp [Act.eval]; done)) (by first | rfl | (simp [Act.eval]; done)) 28 [.int .i64 c0, .int .i64 c1] hH.out (show 0 < 2 by decide) Try.sizI rfl ?_; intro w5 hr5 hg5; clear p0 p1 q0 q1; have H5 : Row w5 h 28 [.int .i64 (c0 + 1), .int .i64 c1] := hr5.out; have G5 := hG.out.grown hg5 (fun e => hngh (Option.some.inj e).symm); have B5 := below_setR2 hbel (Nat.le_refl _) hg5 hw1h; have p0 : w5.cell? ⟨h, 0, none⟩ = some (.int .i64 (c0 + 1)) := H5.cell rfl; have p1 : w5.cell? ⟨h, 1, none⟩ = some (.int .i64 c1) := H5.cell rfl; have q0 := G5.cell HX.out.1; have q1 := G5.cell HX.out.2; have HH5 := (show Hid (Row w5 h 28 [.int .i64 (c0 + 1), .int .i64 c1]) from H5); have HG5 := (show Hid (Row w5 g 26 (bs l)) from G5); clear H5 G5 hr5 hg5) | (refine wl_set rfl 3 _ _ rfl h 1 (.int .i64 (c1 + 1)) (by first | rfl | (simp [Act.eval]; done)) (by first | rfl | (simp [Act.eval]; done)) 28 [.int .i64 (c0 + 1), .int .i64 c1] HH5.out (show 1 < 2 by decide) Try.sizI rfl ?_; intro w6 hr6 hg6; clear p0 p1 q0 q1; have H6 : Row w6 h 28 [.int .i64 (c0 + 1), .int .i64 (c1 + 1)] := hr6.out; have G6 := Row.grown HG5.out hg6 (fun e => hngh (Option.some.inj e).symm); have B6 := below_setR2 B5 (Nat.le_refl _) hg6 hw1h; have q0 := G6.cell HX.out.1; have q1 := G6.cell HX.out.2; have HH6 := (show Hid (Row w6 h 28 [.int .i64 (c0 + 1), .int .i64 (c1 + 1)]) from H6); have HG6 := (show Hid (Row w6 g 26 (bs l)) from G6); clear H6 G6 hr6 hg6))
                go_roundw
                case rel => exact ⟨m + 1, (c0 + 1), (c1 + 1), (d + 1), hmN, by go_num, rfl, hI.out.tt, HH6, HG6, B6⟩
                case measure => exact meas1 hmN
          · have i1 : ¬ (m : Int) < (N : Int) := by omega
            have hmm : N = m := Nat.le_antisymm (Nat.le_of_not_lt hmN) hm
            have HW := (show Hid (¬ c0 < quo (N : Int) → ¬ c1 < quo (N : Int) → wea (N : Int) ≤ d ∧ fau (N : Int) < d) from by
              rw [hmm]
              have := HNr.out
              rw [hmm] at this
              exact hI.out.fin this)
            clear hmm hI hG
            by_cases u0 : c0 < quo (N : Int)
            · go_wp2_with (go_at_call 7; refine (quorum_any _ _).mono ?_; rintro e wr ⟨rfl, rfl⟩)
              go_ret
              exact ⟨rfl, below_and B1 le hbel⟩
            by_cases u1 : c1 < quo (N : Int)
            · go_wp2_with (go_at_call 7; refine (quorum_any _ _).mono ?_; rintro e wr ⟨rfl, rfl⟩)
              go_ret
              exact ⟨rfl, below_and B1 le hbel⟩
            · obtain ⟨t1, t2⟩ := HW.out u0 u1
              go_wp2_with (first | (go_at_call 7; refine (quorum_any _ _).mono ?_; rintro e wr ⟨rfl, rfl⟩) | (go_at_call 8; refine (weak_any _ _).mono ?_; rintro e wr ⟨rfl, rfl⟩) | (go_at_call 9; refine (faults_any _ _).mono ?_; rintro e wr ⟨rfl, rfl⟩))
              go_ret
              exact ⟨rfl, below_and B1 le hbel⟩
  · have hrn := rgt_no hr
    go_wp2_with (go_at_call 6; refine (right_any _ _).mono ?_; rintro e w1 ⟨rfl, rfl⟩; rw [hrn])
    go_ret
    exact ⟨rfl, B1⟩
end Go.Proofs.Ytcajelodbfpkfab
