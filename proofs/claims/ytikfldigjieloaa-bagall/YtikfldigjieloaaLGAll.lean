/- catenarylaw13.BagAll: its walk. -/
import Derived.Test.YtikfldigjieloaaLGCopies
import Derived.Test.YtikfldigjieloaaOpenG
import Derived.BigQuiet
set_option linter.unusedVariables false
set_option linter.unusedSimpArgs false
namespace Go.Proofs.Ytikfldigjieloaa
open Go.RowKit Oct Kvl

/-- The packet j of a list, with its number as From. -/
def nub (ys : List PPk) (j : Nat) : PPk := ((j : Int), (ys.getD j pk0).2.1, (ys.getD j pk0).2.2)
def nubs (ys : List PPk) (k : Nat) : List PPk := (List.range k).map (nub ys)
theorem nubs_succ (ys : List PPk) (k : Nat) : nubs ys k ++ [nub ys k] = nubs ys (k + 1) := by unfold nubs; rw [List.range_succ, List.map_append]; rfl
theorem nubs_len (ys : List PPk) (k : Nat) : (nubs ys k).length = k := by unfold nubs; simp
/-- What is left of N packets when k were taken; which were seen. -/
structure Drn (N : Nat) (ys zs : List PPk) (sn : List Bool) (k : Nat) : Prop where
  a : ∀ x ∈ zs, ∃ j : Nat, j < N ∧ x = nub ys j ∧ sn[j]? = some false
  b : (zs.map (·.1)).Nodup
  c : ∀ j, j < N → sn[j]? = some true ∨ ∃ x ∈ zs, x.1 = (j : Int)
  d : zs.length + k = N
  e : sn.length = N
theorem Drn.start (N : Nat) (ys : List PPk) : Drn N ys (nubs ys N) (List.replicate N false) 0 := by
  refine ⟨fun x hx => ?_, ?_, fun j hj => .inr ⟨nub ys j, ?_, rfl⟩, by rw [nubs_len]; omega, by simp⟩
  · unfold nubs at hx
    obtain ⟨j, hj, rfl⟩ := List.mem_map.1 hx
    have hj : j < N := List.mem_range.1 hj
    exact ⟨j, hj, rfl, by rw [List.getElem?_replicate, if_pos hj]⟩
  · unfold nubs
    rw [List.map_map]
    have : (List.range N).map ((fun x : PPk => x.1) ∘ nub ys) = (List.range N).map (fun j : Nat => (j : Int)) := rfl
    rw [this]
    exact List.Pairwise.map _ (fun a b (h : a ≠ b) e => h (by omega)) List.nodup_range
  · unfold nubs
    exact List.mem_map.2 ⟨j, List.mem_range.2 hj, rfl⟩
theorem Drn.at {N : Nat} {ys zs : List PPk} {sn : List Bool} {k n : Nat} (h : Drn N ys zs sn k) (hn : n < zs.length) : ∃ j : Nat, j < N ∧ zs.getD n pk0 = nub ys j ∧ sn[j]? = some false ∧ Drn N ys (zs.take n ++ zs.drop (n + 1)) (sn.set j true) (k + 1) := by
  obtain ⟨j, hj, e, hs⟩ := h.a _ (List.mem_of_getElem? (getD_at hn))
  refine ⟨j, hj, e, hs, ?_⟩
  have hz : zs = zs.take n ++ zs.getD n pk0 :: zs.drop (n + 1) := by
    have h1 : zs.drop n = zs.getD n pk0 :: zs.drop (n + 1) := by
      rw [List.drop_eq_getElem_cons hn, List.getD, List.getElem?_eq_getElem hn]
      rfl
    rw [← h1, List.take_append_drop]
  rw [e] at hz
  generalize zs.take n = A at *
  generalize zs.drop (n + 1) = B at *
  have hb := h.b
  rw [hz, List.map_append, List.map_cons] at hb
  have hsub : ∀ x ∈ A ++ B, x ∈ zs := fun x hx => by
    rw [hz]
    rcases List.mem_append.1 hx with hx | hx
    · exact List.mem_append.2 (.inl hx)
    · exact List.mem_append.2 (.inr (List.mem_cons_of_mem _ hx))
  have hb2 := List.nodup_append.1 hb
  have hb3 := List.nodup_cons.1 hb2.2.1
  have hne : ∀ x ∈ A ++ B, x.1 ≠ (j : Int) := fun x hx he => by
    rcases List.mem_append.1 hx with hx | hx
    · exact hb2.2.2 x.1 (List.mem_map.2 ⟨x, hx, rfl⟩) (nub ys j).1 (by simp) he
    · exact hb3.1 (List.mem_map.2 ⟨x, hx, he⟩)
  have hl := h.d
  rw [hz, List.length_append, List.length_cons] at hl
  refine ⟨fun x hx => ?_, ?_, fun i hi => ?_, by rw [List.length_append]; omega, by rw [List.length_set]; exact h.e⟩
  · obtain ⟨i, hi, ei, si⟩ := h.a x (hsub x hx)
    refine ⟨i, hi, ei, ?_⟩
    rw [List.getElem?_set_ne (fun e2 => hne x hx (by rw [ei, e2]; rfl))]
    exact si
  · rw [List.map_append]
    exact List.nodup_append.2 ⟨hb2.1, hb3.2, fun a ha c hc => hb2.2.2 a ha c (List.mem_cons_of_mem _ hc)⟩
  · by_cases hij : i = j
    · subst hij
      exact .inl (by rw [List.getElem?_set_self (by rw [h.e]; exact hi)])
    · rcases h.c i hi with h1 | ⟨x, hx, ex⟩
      · exact .inl (by rw [List.getElem?_set_ne (fun e2 => hij e2.symm)]; exact h1)
      · refine .inr ⟨x, ?_, ex⟩
        rw [hz] at hx
        rcases List.mem_append.1 hx with hx | hx
        · exact List.mem_append.2 (.inl hx)
        · rcases List.mem_cons.1 hx with rfl | hx
          · exact absurd ex (fun e2 => hij (by unfold nub at e2; simp at e2; omega))
          · exact List.mem_append.2 (.inr hx)

theorem Try.infBo : (Try.prog.info? 4).map (fun i => (i.zero, i.size, i.bytes)) = some (some (.bool false), 1, 1) := by kernel_rfl
theorem run_mkBo (n : Nat) (hn : n ≤ 281474976710656) (u : World) : (Instr.makeSlice 46 (.int .i64 (n : Int)) (.int .i64 (n : Int))).run Try.prog u =
    .ok (.slice (some ⟨u.heap.size, 0, none⟩) n n) (u.alloc (.cells (madeCells #[.bool false] n) 4)) := by
  obtain ⟨i0, hi, hz0, hz1, hz2⟩ := info_parts Try.infBo
  have h := run_make (P := Try.prog) u 46 4 i0 (.bool false) Try.underlying46 hi hz0 .i64 .i64 (n : Int) (n : Int) (by omega) (Int.le_refl _) (by rw [hz2]; omega) (by omega)
  rw [Int.toNat_natCast] at h
  simpa [hz1, Value.cells] using h
def boc (sn : List Bool) : List Value := sn.map Value.bool
theorem row_madeBo (w : World) (n : Nat) : Row (w.alloc (.cells (madeCells #[.bool false] n) 4)) w.heap.size 4 (boc (List.replicate n false)) := by
  have e : madeCells #[Value.bool false] n = (boc (List.replicate n false)).toArray := by
    apply Array.toList_inj.1
    rw [toList_madeCells_one]
    simp [boc]
  rw [e]
  exact Row.new w _ _
theorem boc_at {sn : List Bool} {j : Nat} {x : Bool} (h : sn[j]? = some x) : (boc sn)[j]? = some (.bool x) := by unfold boc; rw [List.getElem?_map, h]; rfl
theorem boc_set (sn : List Bool) (j : Nat) (x : Bool) : (boc sn).set j (.bool x) = boc (sn.set j x) := by unfold boc; rw [List.map_set]
theorem boc_len (sn : List Bool) : (boc sn).length = sn.length := by unfold boc; simp
theorem ints_at {w : World} {v : Value} {ps : List Int} (h : RL RIn 1 Any w v ps) (k : Nat) (x : Int) (hx : ps[k]? = some x) : ∃ b off cap, v = .slice (some ⟨b, off, none⟩) ps.length cap ∧ ps.length ≤ cap ∧ cap ≤ maxLen ∧ ∀ w', Below w.heap.size w w' → w'.cell? ⟨b, off + k, none⟩ = some (.int .i64 x) := by
  obtain ⟨b, off, cap, e, h1, h2, _, hb, h3⟩ := h.at (by have := (List.getElem?_eq_some_iff.1 hx).1; omega)
  obtain ⟨r, _, hr, rfl⟩ := h3 k x hx
  refine ⟨b, off, cap, e, h1, h2, fun w' hw => ?_⟩
  have := rangeAt_block hr (hw.block b hb) 0 _ rfl
  simpa using this

set_option maxRecDepth 10000 in
set_option maxHeartbeats 2000000 in
theorem allG_any (w : World) (v0 v1 : Value) (ys : List PPk) (ps : List Int) (h0 : RL RPk 3 Any w v0 ys) (h1 : RL RIn 1 Any w v1 ps) (z0 : szL 40 (fun x : PPk => szT x.2.2) ys) :
    Calls Try.prog 5 #[v0, v1] w fun e w' => e = .returned (.bool true) ∧ Below w.heap.size w w' := by
  have le := Nat.le_refl w.heap.size
  have hA := pks_at h0 z0
  have hI := ints_at h1
  obtain ⟨a0, c0, rfl, hc0⟩ := h0.form
  obtain ⟨a1, c1, rfl, hc1⟩ := h1.form
  obtain ⟨N, hN⟩ : ∃ N, N = ys.length := ⟨_, rfl⟩
  obtain ⟨M, hM⟩ : ∃ M, M = ps.length := ⟨_, rfl⟩
  rw [← hN] at hA ⊢
  rw [← hM] at hI ⊢
  have HA := (show Hid (∀ (k : Nat), k < N → ∃ b off cap s, Value.slice a0 N c0 = .slice (some ⟨b, off, none⟩) N cap ∧ N ≤ cap ∧ cap ≤ maxLen ∧ s.oneCell' = true ∧ szT (ys.getD k pk0).2.2 ∧
    ∀ w', Below w.heap.size w w' → w'.rangeAt b (off + k * 3) [.int .i64 (ys.getD k pk0).1, .int .i64 (ys.getD k pk0).2.1, s] ∧ RT Any w' s (ys.getD k pk0).2.2) from hA)
  have HI := (show Hid (∀ (k : Nat) (x : Int), ps[k]? = some x → ∃ b off cap, Value.slice a1 M c1 = .slice (some ⟨b, off, none⟩) M cap ∧ M ≤ cap ∧ cap ≤ maxLen ∧ ∀ w', Below w.heap.size w w' → w'.cell? ⟨b, off + k, none⟩ = some (.int .i64 x)) from hI)
  have HN := (show Hid (ys.length = N) from hN.symm)
  have HM := (show Hid (ps.length = M) from hM.symm)
  have hMm : (M : Int) ≤ 9223372036854775807 := by
    rcases Nat.eq_zero_or_pos M with h | h
    · omega
    · obtain ⟨_, _, cap, _, e1, e2, _⟩ := hI 0 _ (List.getElem?_eq_getElem (by omega))
      unfold maxLen at e2
      omega
  clear hN hM hA hI h0 h1 hc0 hc1 z0
  by_cases h500 : (500 : Int) < N
  · go_enter Try.func5, Try.ntmps5
    go_wp2_with (go_at_call 7; refine (bagAlive_any w).mono ?_; rintro e w1 ⟨rfl, hb1⟩)
    go_ret
    exact ⟨rfl, hb1⟩
  have h500' : decide ((500 : Int) < N) = false := decide_eq_false h500
  have hNb : (N : Int) ≤ 500 := by omega
  go_enter Try.func5, Try.ntmps5
  go_upto_region 5 with (go_at_call 7; refine (bagAlive_any w).mono ?_; rintro e w1 ⟨rfl, hb1⟩)
  go_upto_region 6 with (go_at_call 8; refine (newX_any w w1 hb1).mono ?_; rintro e w2 ⟨b, rfl, hb2⟩)
  clear hb1 h500
  have hb2 : Bx w w2 b (nubs ys 0) := hb2
  go_wp2_with fail
  go_loopw [23] (fun j wr => ∃ k : Nat, k ≤ N ∧ j = .int .i64 k ∧ Bx w wr b (nubs ys k)) (fun j _ => N - (intOf j).toNat)
  case atStart => exact ⟨0, by omega, rfl, hb2⟩
  case round =>
    clear hb2
    obtain ⟨k, hk, rfl, hB⟩ := hrel
    by_cases hkl : k < N
    · obtain ⟨tb, tof, tc, s, et, ht1, ht2, hs1, hzk, hx⟩ := HA.out k hkl
      injection et with et1 _ et3
      subst et1 et3
      have hki : (k : Int) < (N : Int) := by omega
      have hrng := (hx wr hB.bel).1
      have HX := (show Hid (∀ w', Below w.heap.size w w' → RT Any w' s (ys.getD k pk0).2.2) from fun w' hw => (hx w' hw).2)
      have HT := (show Hid (nubs ys k ++ [((k : Int), (ys.getD k pk0).2.1, (ys.getD k pk0).2.2)] = nubs ys (k + 1)) from nubs_succ ys k)
      have HL := (show Hid ((nubs ys k).length < 4096) by show _ < _; rw [nubs_len]; omega)
      generalize ys.getD k pk0 = x at *
      obtain ⟨p, q, l⟩ := x
      simp only at hrng HX HT hzk
      obtain ⟨as', cs', rfl, _⟩ := (HX.out wr hB.bel).form
      have hrow0 := Row.new wr 29 [.int .i64 0, .int .i64 0, .slice none 0 0]
      clear hx
      go_upto_region 9 with (first
        | (refine wpList_load_mid rfl _ _ rfl tb (tof + k * 3) rfl [.int .i64 p, .int .i64 q, .slice as' l.length cs'] _ hrng Try.underlying29 rfl (by kernel_rfl) ?_)
        | (refine wl_store rfl _ _ _ rfl wr.heap.size [.int .i64 p, .int .i64 q, .slice as' l.length cs'] rfl rfl _ _ hrow0 rfl (by kernel_rfl) (onP3 rfl) ?_; intro w5 hr5 hg5))
      have hb5 : Below wr.heap.size wr w5 := (below_alloc wr (.cells ([.int .i64 0, .int .i64 0, .slice none 0 0] : List Value).toArray 29)).trans (grown_below hg5 (by simp) (fun k hk => by cases hk; exact Nat.le_refl _))
      have hr5 := hr5.out
      have hl5 : wr.heap.size < w5.heap.size := hr5.lt
      have hs5 := (HX.out w5 (below_and hB.bel le hb5)).1
      have p1 := hr5.cell (j := 1) rfl
      have p2 := hr5.cell (j := 2) rfl
      have SK := (show Hid (∀ u : World, u.heap[wr.heap.size]? = w5.heap[wr.heap.size]? → u.cell? ⟨wr.heap.size, 1, none⟩ = some (.int .i64 q) ∧ u.cell? ⟨wr.heap.size, 2, none⟩ = some (.slice as' l.length cs')) from fun u hu => ⟨(World.cell?_of_block (a := ⟨wr.heap.size, 1, none⟩) hu).trans p1, (World.cell?_of_block (a := ⟨wr.heap.size, 2, none⟩) hu).trans p2⟩)
      have HP := (show Hid (∀ u s', Below w5.heap.size w5 u → RT Any u s' l → Calls Try.prog 9 #[.pointer (some ⟨b, 0, none⟩), .agg ([.int .i64 (k : Int), .int .i64 q, s'] : List Value).toArray] u fun e w' => e = .returned (.int .i64 0) ∧ Bx w w' b (nubs ys k ++ [((k : Int), q, l)]) ∧ w'.heap[wr.heap.size]? = w5.heap[wr.heap.size]?) from fun u s' hu hs' => (putX_at w wr u b _ hB (below_and hb5 (Nat.le_refl _) hu) HL.out _ ((k : Int), q, l) ⟨s', rfl, hs'⟩ hzk).mono fun e w' ⟨h1, h2, h3⟩ => ⟨h1, h2, (h3 _ (Nat.le_refl _) (by have := hu.size; omega)).trans (hu.block _ hl5)⟩)
      have hln : ([] : List Int).length + l.length ≤ 140737488355328 := by simp only [List.length_nil]; unfold szT at hzk; omega
      clear hrng hrow0 hg5 hB
      go_region_held3 (fun u => u.cell? ⟨wr.heap.size, 1, none⟩ = some (.int .i64 q) ∧ u.cell? ⟨wr.heap.size, 2, none⟩ = some (.slice as' l.length cs'))
        (first | exact SK.out _ (by assumption) | go_keep)
        (first
          | (refine step_bytes (by rfl) _ _ (by rfl) (.slice (some ⟨w5.heap.size, 0, none⟩) 0 0) [] (by rfl) (own_zero w5 5).drew (.slice as' l.length cs') l (by rfl) (hs5.below (below_alloc w5 _)).2.drew hln ?_; intro v6 w6 happ6; have hb6 : Below w5.heap.size w5 w6 := ((below_alloc w5 _).drew).trans (happ6.below (fr_at _ _ _ _ (Nat.le_refl _)) (by simp)); have hR6 : RT Any w6 v6 l := ⟨Own.rd (l := l) (by simpa using happ6.own) hs5.1, fun _ _ _ => trivial⟩; obtain ⟨ao6, n6, c6, rfl⟩ := own_sliceP happ6.own; have hk6 : w6.heap[wr.heap.size]? = w5.heap[wr.heap.size]? := hb6.block _ hl5)
          | (go_at_call 9; refine (HP.out w6 _ hb6 hR6).mono ?_; rintro e w8 ⟨rfl, hb8, hk8⟩))
      rw [HT.out] at hb8
      go_wp2_with fail
      go_roundw
      case rel => exact ⟨k + 1, by omega, by go_num, hb8⟩
      case measure => simp [intOf]; omega
    · obtain rfl : k = N := by omega
      have hkk : decide ((k : Int) < (k : Int)) = false := by simp
      have hmk := run_mkBo k (by omega)
      have hrw := row_madeBo wr k
      have hD0 := Drn.start k ys
      have hb3 := hB.below (below_alloc wr (.cells (madeCells #[.bool false] k) 4))
      obtain ⟨w3, hw3⟩ : ∃ w3, w3 = wr.alloc (.cells (madeCells #[.bool false] k) 4) := ⟨_, rfl⟩
      rw [← hw3] at hrw hb3
      go_upto_region 13 with fail
      rw [← hw3]
      clear hw3 hmk
      obtain ⟨g, hg⟩ : ∃ g, g = wr.heap.size := ⟨_, rfl⟩
      rw [← hg] at hrw ⊢
      have hgw : w.heap.size ≤ g := by rw [hg]; exact hB.bel.size
      clear hB hg
      go_wp2_with fail
      go_loopw [9] (fun j wr => ∃ (m : Nat) (zs : List PPk) (sn : List Bool), j = .int .i64 m ∧ Bx w wr b zs ∧ Row wr g 4 (boc sn) ∧ Drn k ys zs sn m) (fun j _ => k - (intOf j).toNat)
      case atStart => exact ⟨0, _, _, rfl, hb3, hrw, hD0⟩
      case round =>
        clear hb3 hrw hD0
        obtain ⟨m, zs, sn, rfl, hB, hR, hD⟩ := hrel
        have hd := hD.d
        obtain ⟨Z, hZ⟩ : ∃ Z, Z = zs.length := ⟨_, rfl⟩
        have HL := (show Hid (∀ u, Below wr.heap.size wr u → Calls Try.prog 12 #[.pointer (some ⟨b, 0, none⟩)] u fun e w' => e = .returned (.int .i64 (Z : Int)) ∧ w' = u) from fun u hu => by
          have := lenX_any w u b zs (hB.below hu)
          rwa [← hZ] at this)
        by_cases hz : 0 < zs.length
        · have hZ0 : (0 : Int) < (Z : Int) := by omega
          have hZk : Z + m = k := by omega
          have HZ := (show Hid (Z = zs.length) from hZ)
          have hmb : (m : Int) ≤ 500 := by omega
          have HB := (show Hid (Bx w wr b zs) from hB)
          have HR := (show Hid (Row wr g 4 (boc sn)) from hR)
          have HD := (show Hid (Drn k ys zs sn m) from hD)
          clear hZ hd hz hB hR hD
          go_upto_region 17 with (go_at_call 12; refine (HL.out wr (Below.refl _ _)).mono ?_; rintro e wr ⟨rfl, rfl⟩)
          go_cut [58] from 43 to 120 (fun s58 wx => wx = wr ∧ ∃ c : Bool, s58 = .bool c ∧ (c = true → m < M ∧ ∃ P, ps[m]? = some P ∧ 0 ≤ P))
          case first =>
            by_cases hmM : m < M
            · obtain ⟨P, hP⟩ : ∃ P, ps[m]? = some P := ⟨_, List.getElem?_eq_getElem (by have := HM.out; omega)⟩
              obtain ⟨tb, tof, tc, et, ht1, ht2, htx⟩ := HI.out m P hP
              injection et with et1 _ et3
              subst et1 et3
              have hmi : (m : Int) < (M : Int) := by omega
              have cP := htx wr HB.out.bel
              have HPP := (show Hid (ps[m]? = some P) from hP)
              clear hP htx
              by_cases hP0 : 0 ≤ P
              · have hP0' : decide (0 ≤ P) = true := decide_eq_true hP0
                go_wp2_with fail
                go_meet
                exact ⟨rfl, true, rfl, fun _ => ⟨hmM, P, HPP.out, hP0⟩⟩
              · have hP0' : decide (0 ≤ P) = false := decide_eq_false hP0
                go_wp2_with fail
                go_meet
                exact ⟨rfl, false, rfl, fun h => by cases h⟩
            · have hmi : decide ((m : Int) < (M : Int)) = false := by simp; omega
              go_wp2_with fail
              go_meet
              exact ⟨rfl, false, rfl, fun h => by cases h⟩
          case rest =>
          obtain ⟨ewc, c, rfl, hcc⟩ := hcut
          rw [ewc]
          clear ewc
          go_upto_if 58 with fail
          go_cut [10] from 43 to 120 (fun s10 wx => ∃ r : Nat, r < Z ∧ s10 = .int .i64 r ∧ Below wr.heap.size wr wx)
          case first =>
            cases c with
            | true =>
              obtain ⟨hmM, P, hP, hP0⟩ := hcc rfl
              obtain ⟨tb, tof, tc, et, ht1, ht2, htx⟩ := HI.out m P hP
              injection et with et1 _ et3
              subst et1 et3
              have hmi : (m : Int) < (M : Int) := by omega
              have cP := htx wr HB.out.bel
              clear hP htx hcc
              obtain ⟨r, hr⟩ : ∃ r : Nat, P.tmod (Z : Int) = (r : Int) := ⟨(P.tmod (Z : Int)).toNat, by rw [Int.toNat_of_nonneg]; rw [Int.tmod_eq_emod_of_nonneg hP0]; exact Int.emod_nonneg _ (by omega)⟩
              have hrZ : r < Z := by
                have h1 : P.tmod (Z : Int) < (Z : Int) := by rw [Int.tmod_eq_emod_of_nonneg hP0]; exact Int.emod_lt_of_pos _ hZ0
                omega
              have hzn : ¬ ((Z : Int) = 0) := by omega
              have hrb : IntKind.i64.wrap (r : Int) = (r : Int) := wrapP (by omega) (by omega)
              go_upto_region 18 with fail
              go_quiet ((go_at_call 12; exact quiet_as (HL.out _ ⟨rfl, rfl, rfl, Nat.le_refl _, fun _ _ => rfl⟩) rfl))
              go_wp2_with fail
              go_meet
              exact ⟨r, hrZ, rfl, ⟨rfl, rfl, rfl, Nat.le_refl _, fun _ _ => rfl⟩⟩
            | false =>
              clear hcc
              go_wp2_with fail
              go_meet
              exact ⟨0, by omega, rfl, Below.refl _ _⟩
          case rest =>
            obtain ⟨r, hrZ, rfl, hbc⟩ := hcut
            obtain ⟨j, hj, ej, hsj, hD'⟩ := HD.out.at (n := r) (by have := HZ.out; omega)
            have hT := takeX_ok w wc b zs (HB.out.below hbc) r (by have := HZ.out; omega)
            rw [ej] at hT
            have hRc := HR.out.below hbc
            have HD' := (show Hid (Drn k ys (zs.take r ++ zs.drop (r + 1)) (sn.set j true) (m + 1)) from hD')
            obtain ⟨tb, tof, tc, s, et, ht1, ht2, hs1, hzk, hx⟩ := HA.out j hj
            injection et with et1 _ et3
            subst et1 et3
            unfold nub at hT
            have HX := (show Hid (∀ w', Below w.heap.size w w' → w'.rangeAt tb (tof + j * 3) [.int .i64 (ys.getD j pk0).1, .int .i64 (ys.getD j pk0).2.1, s] ∧ RT Any w' s (ys.getD j pk0).2.2) from hx)
            have HSJ := (show Hid (sn[j]? = some false) from hsj)
            have hjl : j < sn.length := (List.getElem?_eq_some_iff.1 hsj).1
            clear hx ej hD' hbc hsj hzk
            generalize ys.getD j pk0 = x at *
            obtain ⟨p, q, l⟩ := x
            generalize zs.take r ++ zs.drop (r + 1) = zs' at *
            simp only at hT HX
            obtain ⟨as', cs', rfl, _⟩ := (HX.out w (Below.refl _ _)).2.form
            have hji : (j : Int) < (k : Int) := by omega
            have hj0 : decide ((j : Int) < 0) = false := by simp
            have hjk : decide ((k : Int) ≤ (j : Int)) = false := by simp; omega
            have hjk2 : decide (k ≤ j) = false := by simp; omega
            have hjk3 : ¬ k ≤ j := by omega
            go_upto_region 20 with (first
              | (go_at_call 15; refine hT.mono ?_; rintro e w6 ⟨s6, rfl, o6, hb6, hk6⟩; have rn := Row.new w6 29 [.int .i64 0, .int .i64 0, .slice none 0 0])
              | (refine wl_store rfl _ _ _ rfl w6.heap.size [.int .i64 (j : Int), .int .i64 q, s6] rfl rfl _ _ rn rfl (by kernel_rfl) (onP3 o6.one) ?_; intro w7 hr7 hg7))
            have hb67 : Below w6.heap.size w6 w7 := (below_alloc w6 (.cells ([.int .i64 0, .int .i64 0, .slice none 0 0] : List Value).toArray 29)).trans (grown_below hg7 (by simp) (fun k hk => by cases hk; exact Nat.le_refl _))
            have hb7 := hb6.below hb67
            have hr7 := hr7.out
            have o7 := o6.mv (Mv.belowG hb67)
            have rg7 := (hk6 g _ _ (by decide) (by decide) hRc).below hb67
            obtain ⟨a6, c6, rfl, _⟩ := o7.rt.form
            have p0 := hr7.cell (j := 0) rfl
            have p1 := hr7.cell (j := 1) rfl
            have p2 := hr7.cell (j := 2) rfl
            have pj := rg7.cell (boc_at HSJ.out)
            obtain ⟨hrn, hsn⟩ := HX.out w7 hb7.bel
            have q1 := hrn 1 _ rfl
            have q2 := hrn 2 _ rfl
            have SK := (show Hid (∀ u : World, Below w7.heap.size w7 u → (u.cell? ⟨w6.heap.size, 0, none⟩ = some (.int .i64 (j : Int)) ∧ u.cell? ⟨w6.heap.size, 1, none⟩ = some (.int .i64 q) ∧ u.cell? ⟨w6.heap.size, 2, none⟩ = some (.slice a6 l.length c6)) ∧ u.cell? ⟨g, j, none⟩ = some (.bool false) ∧ u.cell? ⟨tb, tof + j * 3 + 1, none⟩ = some (.int .i64 q) ∧ u.cell? ⟨tb, tof + j * 3 + 2, none⟩ = some (.slice as' l.length cs')) from fun u hu => ⟨⟨keepP hu p0, keepP hu p1, keepP hu p2⟩, keepP hu pj, keepP hu q1, keepP hu q2⟩)
            have hdw := bel_drewP w7
            have HSm := (show Hid (∀ u, Below w7.heap.size w7 u → Calls Try.prog 17 #[.agg ([.int .i64 (j : Int), .int .i64 q, .slice a6 l.length c6] : List Value).toArray, .agg ([.int .i64 (j : Int), .int .i64 q, .slice as' l.length cs'] : List Value).toArray] u fun e w' => e = .returned (.bool true) ∧ Below w7.heap.size w7 w') from fun u hu => (samePk_eq u _ _ ((j : Int), q, l) ⟨_, rfl, (o7.rt.mv (fun _ _ _ => ⟨rfl, trivial⟩)).mv (Mv.below hu)⟩ ⟨_, rfl, hsn.mv (Mv.below hu)⟩).mono fun e w' ⟨h1, h2⟩ => ⟨h1, below_and hu (Nat.le_refl _) h2⟩)
            clear rn hg7 hrn hb67 hb6 hRc hT HL
            go_cut [112] from 43 to 120 (fun s112 wx => s112 = .bool false ∧ Below w7.heap.size w7 wx)
            case first =>
              go_region_held3 (fun u => (u.cell? ⟨w6.heap.size, 0, none⟩ = some (.int .i64 (j : Int)) ∧ u.cell? ⟨w6.heap.size, 1, none⟩ = some (.int .i64 q) ∧ u.cell? ⟨w6.heap.size, 2, none⟩ = some (.slice a6 l.length c6)) ∧ u.cell? ⟨g, j, none⟩ = some (.bool false) ∧ u.cell? ⟨tb, tof + j * 3 + 1, none⟩ = some (.int .i64 q) ∧ u.cell? ⟨tb, tof + j * 3 + 2, none⟩ = some (.slice as' l.length cs'))
                (first | (with_reducible exact SK.out _ hb8) | (with_reducible exact SK.out _ hdw) | (with_reducible exact SK.out _ (Below.refl _ _)) | go_keep)
                (first
                  | (go_at_call 17; refine (HSm.out _ (by first | (with_reducible exact hdw) | (with_reducible exact Below.refl _ _))).mono ?_; rintro e w8 ⟨rfl, hb8⟩))
              all_goals (
                go_wp2_with fail
                go_meet
                exact ⟨rfl, hb8⟩)
            case rest =>
              obtain ⟨rfl, hbc⟩ := hcut
              have hBc := hb7.below hbc
              have rgc := rg7.below hbc
              have cc0 := keepP hbc p0
              have hgb : wc.heap.size = wc.heap.size := rfl
              have HB' := (show Hid (∀ u, wc.grownBy u (some g) → Bx w u b zs') from fun u hu => by
                obtain ⟨vb, h5⟩ := hBc
                exact ⟨vb, h5.bg.box rgc (by decide) hu (rgc.apart h5.bg.row (by decide)) (h5.bg.lst.ne rgc (by decide)), h5.bel.trans (grown_below hu h5.bel.size (fun i hi => by cases hi; exact hgw)), h5.fr, h5.hb⟩)
              have hjb : j < (boc sn).length := by rw [boc_len]; exact hjl
              have HE := (show Hid ((boc sn).set j (.bool true) = boc (sn.set j true)) from boc_set sn j true)
              have hmk : decide ((k : Int) < (m : Int)) = false := by simp; omega
              have hmk2 : decide (k < m) = false := by simp; omega
              have hmk3 : ¬ k < m := by omega
              have hmm : m + 1 ≤ k := by omega
              clear SK HSm hdw p0 p1 p2 pj q1 q2 hr7 o6 o7 hsn hb7 hbc hBc rg7 hk6 HX HSJ hgb
              go_wp2_with (refine wl_set rfl _ _ _ rfl g j (.bool true) rfl rfl _ _ rgc hjb (by kernel_rfl) rfl ?_; intro w9 hr9 hg9)
              go_roundw
              case rel =>
                have hr9 := hr9.out
                rw [HE.out] at hr9
                exact ⟨m + 1, zs', sn.set j true, by go_num, HB'.out w9 hg9, hr9, HD'.out⟩
              case measure => simp [intOf]; omega
        · have hz0 : zs = [] := List.eq_nil_of_length_eq_zero (by omega)
          have hZ0 : decide ((0 : Int) < (Z : Int)) = false := by simp; omega
          have hZ1 : Z = 0 := by rw [hZ, hz0]; rfl
          have HC := (show Hid (∀ j, j < k → sn[j]? = some true) from fun j hj => by
            rcases hD.c j hj with h | ⟨x, hx, _⟩
            · exact h
            · rw [hz0] at hx; cases hx)
          have HBe := (show Hid (Below w.heap.size w wr) from hB.bel)
          clear hZ hd hz hB hD hz0
          subst hZ1
          go_upto_region 25 with (go_at_call 12; refine (HL.out wr (Below.refl _ _)).mono ?_; rintro e wr ⟨rfl, rfl⟩)
          clear HL
          have HR := (show Hid (Row wr g 4 (boc sn)) from hR)
          clear hR
          go_wp2_with fail
          go_loopw [123] (fun j wx => ∃ q : Nat, q ≤ k ∧ j = .int .i64 q ∧ wx = wr) (fun j _ => k - (intOf j).toNat)
          case atStart => exact ⟨0, by omega, rfl, rfl⟩
          case round =>
            obtain ⟨q, hq, rfl, ew⟩ := hrel
            subst ew
            by_cases hqk : q < k
            · have hqi : (q : Int) < (k : Int) := by omega
              have cq := HR.out.cell (boc_at (HC.out q hqk))
              go_wp2_with fail
              go_roundw
              case rel => exact ⟨q + 1, by omega, by go_num, by first | exact trivial | rfl⟩
              case measure => simp [intOf]; omega
            · have hqi : decide ((q : Int) < (k : Int)) = false := by simp; omega
              go_wp2_with fail
              go_ret
              exact ⟨rfl, HBe.out⟩
end Go.Proofs.Ytikfldigjieloaa
