/- The walks over package octet: texts; and over the document's own answers. -/
import Derived.Test.YtgjepofinpmcpaaGreatDoorCAC
import Derived.Test.YtgjepofinpmcpaaGreatDoorProg
import Derived.WalkSpells
import Derived.WalkLawsBesides
import Derived.KernelRfl
import Derived.Laws.CopyOwn
section
namespace Go.Proofs.YtgjepofinpmcpaaGreatDoor
open Go.RowKit Oct

theorem Tryz.info5 : (Tryz.prog.info? 5).map (fun i => (i.zero, i.size, i.bytes)) = some (some (.int .u8 0), 1, 1) := by kernel_rfl

/-- 'append(s, x...)' of bytes, at this program. -/
theorem app_bytes_w {w : World} {ops : Array Oper} {rest : List Oper} {o : Oper} {a : Act} {Q : Exit → Act → World → Prop} (hgd : Region.wanted o (yielded ops a.tmps) = true) (s x : Operand)
    (ho : o.op = .call { callee := .builtin .append, args := #[s, x], argTypes := #[23, 23] })
    (v : Value) (l : List Int) (hs : a.eval s = v) (hown : Own w 5 v (bc l)) (sv : Value) (m : List Int) (hx : a.eval x = sv) (hsrc : Rdv w sv (bc m)) (hb : l.length + m.length ≤ 140737488355328)
    (h : ∀ v' w', App w 5 v w' v' (bc (l ++ m)) → wpList Tryz.prog ops Q rest (a.put o.dst v') w') : wpList Tryz.prog ops Q (o :: rest) a w := by
  obtain ⟨i0, hi, hz0, hz1, hz2⟩ := info_parts Tryz.info5
  refine wpList_app hgd s x 23 ho 5 i0 (.int .u8 0) 1 Tryz.underlying23 hi hz0 hz1 hz2 rfl v (bc l) hs hown sv (bc m) hx hsrc (bc_one _) (by rw [bc_len, bc_len]; unfold maxLen; omega) (by rw [bc_len, bc_len]; omega) ?_
  rw [← bc_app]
  exact h

theorem app_bytes {w : World} {ops : Array Oper} {rest : List Oper} {o : Oper} {a : Act} {Q : Exit → Act → World → Prop} (hgd : o.guard = none) (s x : Operand)
    (ho : o.op = .call { callee := .builtin .append, args := #[s, x], argTypes := #[23, 23] })
    (v : Value) (l : List Int) (hs : a.eval s = v) (hown : Own w 5 v (bc l)) (sv : Value) (m : List Int) (hx : a.eval x = sv) (hsrc : Rdv w sv (bc m)) (hb : l.length + m.length ≤ 140737488355328)
    (h : ∀ v' w', App w 5 v w' v' (bc (l ++ m)) → wpList Tryz.prog ops Q rest (a.put o.dst v') w') : wpList Tryz.prog ops Q (o :: rest) a w :=
  app_bytes_w (wanted_none hgd) s x ho v l hs hown sv m hx hsrc hb h

/-- The same at a step of a region that draws its order. -/
theorem step_bytes {w : World} {ops : Array Oper} {o : Oper} {a : Act} {K : Act → World → Prop} {Q : Exit → Act → World → Prop} {E : Prop} (hgd : o.guard = none) (s x : Operand)
    (ho : o.op = .call { callee := .builtin .append, args := #[s, x], argTypes := #[23, 23] })
    (v : Value) (l : List Int) (hs : a.eval s = v) (hown : Own w 5 v (bc l)) (sv : Value) (m : List Int) (hx : a.eval x = sv) (hsrc : Rdv w sv (bc m)) (hb : l.length + m.length ≤ 140737488355328)
    (h : ∀ v' w', App w 5 v w' v' (bc (l ++ m)) → K (a.put o.dst v') w') : if Region.wanted o (yielded ops a.tmps) = true then Oper.wp Tryz.prog o a w K Q else E := by
  have hw : Region.wanted o (yielded ops a.tmps) = true := by simp [Region.wanted, hgd]
  rw [if_pos hw]
  obtain ⟨i0, hi, hz0, hz1, hz2⟩ := info_parts Tryz.info5
  refine wp_app s x 23 ho 5 i0 (.int .u8 0) 1 Tryz.underlying23 hi hz0 hz1 hz2 rfl v (bc l) hs hown sv (bc m) hx hsrc (bc_one _) (by rw [bc_len, bc_len]; unfold maxLen; omega) (by rw [bc_len, bc_len]; omega) ?_
  rw [← bc_app]
  exact h

theorem app_start {w : World} {e : TypeId} {v : Value} {xs : List Value} (h : Own w e v xs) : App w e v w v xs := ⟨h, grown_of_below (Below.refl _ _) _, .inl rfl⟩

theorem ret_int {k : IntKind} {a b : Int} (h : a = b) : Ending.returned (.int k a) = .returned (.int k b) := by rw [h]
theorem below_alloc (w : World) (o : Obj) : Below w.heap.size w (w.alloc o) := (Below.refl _ _).alloc (Nat.le_refl _) o

theorem own_zero (w : World) (e : TypeId) : Own (w.alloc (.cells #[] e)) e (.slice (some ⟨w.heap.size, 0, none⟩) 0 0) (bc []) :=
  World.ownsRow_lit (base := 0) (size := 1) w #[] 0 (Nat.zero_le _) (by decide) rfl
theorem fr_at (B g n c : Nat) (h : B ≤ g) : Fr B (.slice (some ⟨g, 0, none⟩) n c) := fun k hk => by simp [Value.ownBlock] at hk; omega

/-- 'append([]byte{}, x...)': a copy. -/
theorem app_copy_w {w : World} {ops : Array Oper} {rest : List Oper} {o : Oper} {a : Act} {Q : Exit → Act → World → Prop} (hgd : Region.wanted o (yielded ops a.tmps) = true) (s x : Operand)
    (ho : o.op = .call { callee := .builtin .append, args := #[s, x], argTypes := #[23, 23] })
    (hs : a.eval s = .slice (some ⟨w.heap.size, 0, none⟩) 0 0) (sv : Value) (m : List Int) (hx : a.eval x = sv) (hsrc : Rd w sv m) (hb : m.length ≤ 140737488355328)
    (h : ∀ v' w', Own w' 5 v' (bc m) → Fr w.heap.size v' → Below w.heap.size w w' → wpList Tryz.prog ops Q rest (a.put o.dst v') w') : wpList Tryz.prog ops Q (o :: rest) a (w.alloc (.cells #[] 5)) := by
  refine app_bytes_w hgd s x ho (.slice (some ⟨w.heap.size, 0, none⟩) 0 0) [] hs (own_zero w 5) sv m hx (hsrc.below (below_alloc w _)).2 (by simp only [List.length_nil]; omega) ?_
  intro v' w' happ
  rw [List.nil_append] at happ
  have hp := happ.pre (below_alloc w _)
  exact h v' w' hp.own (happ.fr (fr_at _ _ _ _ (Nat.le_refl _)) (by simp)) ((below_alloc w _).trans (happ.below (fr_at _ _ _ _ (Nat.le_refl _)) (by simp)))

theorem app_copy {w : World} {ops : Array Oper} {rest : List Oper} {o : Oper} {a : Act} {Q : Exit → Act → World → Prop} (hgd : o.guard = none) (s x : Operand)
    (ho : o.op = .call { callee := .builtin .append, args := #[s, x], argTypes := #[23, 23] })
    (hs : a.eval s = .slice (some ⟨w.heap.size, 0, none⟩) 0 0) (sv : Value) (m : List Int) (hx : a.eval x = sv) (hsrc : Rd w sv m) (hb : m.length ≤ 140737488355328)
    (h : ∀ v' w', Own w' 5 v' (bc m) → Fr w.heap.size v' → Below w.heap.size w w' → wpList Tryz.prog ops Q rest (a.put o.dst v') w') : wpList Tryz.prog ops Q (o :: rest) a (w.alloc (.cells #[] 5)) :=
  app_copy_w (wanted_none hgd) s x ho hs sv m hx hsrc hb h

/-- Two stretches of a run, one behind the other. -/
theorem below_and {B : Nat} {w w1 w2 : World} (h : Below B w w1) (hB : B ≤ w.heap.size) (h' : Below w1.heap.size w1 w2) : Below B w w2 := h.trans (h'.mono (Nat.le_trans hB h.size))

set_option maxHeartbeats 400000 in
theorem appendInt_any (w : World) (v : Value) (l : List Int) (n : Int) (hown : Own w 5 v (bc l)) (h0 : 0 ≤ n) (h1 : n ≤ 9223372036854775807) (hl : l.length ≤ 140737488355300) :
    Calls Tryz.prog 119 #[v, .int .i64 n] w fun e w' => ∃ v', e = .returned v' ∧ App w 5 v w' v' (bc (l ++ enc n)) := by
  go_enter Tryz.func119, Tryz.ntmps119
  go_wp2_with fail
  go_loopw [0, 1] (fun s m wr => ∃ (q : Int) (done : List Int), 0 ≤ q ∧ q ≤ n ∧ m = .int .i64 q ∧ done ++ enc q = l ++ enc n ∧ App w 5 v wr s (bc done)) (fun _ m _ => (intOf m).toNat)
  case atStart => exact ⟨n, l, h0, Int.le_refl _, rfl, rfl, app_start hown⟩
  case round =>
    obtain ⟨q, done, hq0, hq1, rfl, hd, happ⟩ := hrel
    have hdl : done.length ≤ l.length + 10 := by
      have h2 := congrArg List.length hd
      have h3 := enc_len q
      have h4 := enc_len n
      simp only [List.length_append] at h2
      omega
    have HD := (show Hid (done ++ enc q = l ++ enc n) from hd)
    clear hd
    by_cases hq : 128 ≤ q
    · go_wp2_with (at_builtin; refine app_bytes rfl _ _ rfl u0 done rfl (World.ownsRow.alloc happ.own _) _ [q % 128 + 128] rfl (rdv_one wr _ _) (by simp only [List.length_cons, List.length_nil]; omega) ?_; intro v1 w1 happ1)
      go_roundw
      case rel => exact ⟨q / 128, done ++ [q % 128 + 128], by omega, by omega, rfl, by rw [List.append_assoc, List.singleton_append, ← enc_great q hq (by omega)]; exact HD.out, happ.trans (happ1.pre (below_alloc _ _))⟩
      case measure => simp [intOf]; omega
    · go_wp2_with (at_builtin; refine app_bytes rfl _ _ rfl u0 done rfl (World.ownsRow.alloc happ.own _) _ [q] rfl (rdv_one wr _ _) (by simp only [List.length_cons, List.length_nil]; omega) ?_; intro v1 w1 happ1)
      go_ret
      refine ⟨_, rfl, ?_⟩
      rw [← HD.out, enc_small q (by omega)]
      exact happ.trans (happ1.pre (below_alloc _ _))

/-- octet.Int. -/
theorem int_any (w : World) (n : Int) :
    Calls Tryz.prog 90 #[.int .i64 n] w fun e w' => ∃ v, e = .returned (.tuple #[v, .int .i64 (errI n)]) ∧ Own w' 5 v (bc (outI n)) ∧ Fr w.heap.size v ∧ Below w.heap.size w w' := by
  by_cases h0 : n < 0
  · have e1 := errI_no (.inl h0)
    have e2 := outI_no (.inl h0)
    rw [e1, e2]
    clear e1 e2
    go_enter Tryz.func90, Tryz.ntmps90
    go_wp2_with fail
    go_ret2
    exact ⟨_, rfl, Own.nil _ _, Fr.nil _, Below.refl _ _⟩
  by_cases h1 : 2147483647 < n
  · have e1 := errI_no (.inr h1)
    have e2 := outI_no (.inr h1)
    rw [e1, e2]
    clear e1 e2
    go_enter Tryz.func90, Tryz.ntmps90
    go_wp2_with fail
    go_ret2
    exact ⟨_, rfl, Own.nil _ _, Fr.nil _, Below.refl _ _⟩
  · rw [errI_yes (by omega) (by omega), outI_yes (by omega) (by omega)]
    go_enter Tryz.func90, Tryz.ntmps90
    go_wp2_with (go_at_call 119; refine (appendInt_any _ (.slice none 0 0) [] n (Own.nil _ _) (by omega) (by omega) (by simp)).mono ?_; rintro e w' ⟨v', rfl, happ⟩)
    go_ret2
    rw [List.nil_append] at happ
    exact ⟨_, rfl, happ.own, happ.fr (Fr.nil _) (Nat.le_refl _), happ.below (Fr.nil _) (Nat.le_refl _)⟩

/-- octet.groupsAt. -/
theorem groupsAt_any (w : World) (v : Value) (l : List Int) (p : Nat) (hrd : Rd w v l) (hlen : l.length ≤ 281474976710656) (hp : p ≤ l.length) :
    Calls Tryz.prog 109 #[v, .int .i64 p] w fun e w' => e = .returned (.int .i64 (cnt 5 (l.drop p))) ∧ w' = w := by
  by_cases hl : 0 < l.length
  · have hbyt := hrd.1
    obtain ⟨b, off, cap, rfl, hc1, hc2, hb, hcell⟩ := hrd.at hl
    have HC := (show Hid (∀ j, j < l.length → w.cell? ⟨b, off + j, none⟩ = some (.int .u8 (l.getD j 0))) from hcell)
    clear hcell hrd
    go_enter Tryz.func109, Tryz.ntmps109
    go_wp2_with fail
    go_loop [6] (fun i => ∃ k : Nat, k ≤ 5 ∧ i = .int .i64 k ∧ Hid (More (l.drop p) k)) (fun i => 5 - (intOf i).toNat)
    case atStart => exact ⟨0, by omega, rfl, More.zero _⟩
    case round =>
      obtain ⟨k, hk, rfl, hm⟩ := hrel
      by_cases hk5 : k < 5
      · by_cases hpk : p + k < l.length
        · obtain ⟨x, hx⟩ : ∃ x, x = l.getD (p + k) 0 := ⟨_, rfl⟩
          have hcx : w.cell? ⟨b, off + (p + k), none⟩ = some (.int .u8 x) := by rw [hx]; exact HC.out _ hpk
          have hxb := hbyt.getD (p + k)
          rw [← hx] at hxb
          have hx' : (l.drop p).getD k 0 = x := by rw [hx]; simp [List.getD]
          have HX := (show Hid ((l.drop p).getD k 0 = x) from hx')
          clear hx'
          have hdl : k < (l.drop p).length := by rw [List.length_drop]; omega
          clear hx
          by_cases hx : x < 128
          · go_wp2_with fail
            go_ret
            exact ⟨ret_int (by rw [cnt_hit 5 k (l.drop p) hm.out hk5 hdl (by rw [HX.out]; exact hx)]; omega), rfl⟩
          · go_wp2_with fail
            go_round
            case rel => exact ⟨k + 1, by omega, by go_num, hm.out.succ hdl (by rw [HX.out]; omega)⟩
            case measure => simp [intOf]; omega
        · go_wp2_with fail
          go_ret
          exact ⟨ret_int (by rw [cnt_end 5 k (l.drop p) hm.out hk (by rw [List.length_drop]; omega)]; rfl), rfl⟩
      · go_wp2_with fail
        go_ret
        exact ⟨ret_int (by rw [cnt_end 5 k (l.drop p) hm.out hk (by omega)]; rfl), rfl⟩
  · have hp0 : p = 0 := by omega
    subst hp0
    have hl0 : l = [] := List.eq_nil_of_length_eq_zero (by omega)
    subst hl0
    obtain ⟨ao, cap, rfl, hc⟩ := hrd.empty rfl
    clear hrd
    go_enter Tryz.func109, Tryz.ntmps109
    go_wp2_with fail
    refine wp_loop_rounds 1 ?_; rw [rounds_succ]
    go_wp2_with fail
    go_ret
    exact ⟨rfl, rfl⟩

theorem shift_val (x y : Int) (k : Nat) (hk : k ≤ 4) (y0 : 0 ≤ y) (y1 : y < 128 ^ k) : wrap64 (y + wrap64 (x % 128 * 2 ^ (7 * k))) = y + x % 128 * 128 ^ k := by
  have e : ((2 : Int) ^ (7 * k)) = 128 ^ k := by rw [Int.pow_mul]; rfl
  rw [e]
  have hp : (128 : Int) ^ k ≤ 128 ^ 4 ∧ 1 ≤ (128 : Int) ^ k := by
    rcases (show k = 0 ∨ k = 1 ∨ k = 2 ∨ k = 3 ∨ k = 4 from by omega) with h | h | h | h | h <;> subst h <;> decide
  generalize (128 : Int) ^ k = q at *
  obtain ⟨hp1, hp2⟩ := hp
  have m1 : 0 ≤ x % 128 * q := Int.mul_nonneg (by omega) (by omega)
  have m2 : x % 128 * q ≤ 128 * 128 ^ 4 := Int.mul_le_mul (by omega) hp1 (by omega) (by omega)
  generalize x % 128 * q = r at *
  rw [IntWalk.wrap64_in r ⟨by omega, by omega⟩, IntWalk.wrap64_in (y + r) ⟨by omega, by omega⟩]

/-- octet.joinGroups. -/
theorem joinGroups_any (w : World) (v : Value) (l : List Int) (hrd : Rd w v l) (hlen : l.length ≤ 5) :
    Calls Tryz.prog 110 #[v] w fun e w' => e = .returned (.int .i64 (val l)) ∧ w' = w := by
  by_cases hl : 0 < l.length
  · have hbyt := hrd.1
    obtain ⟨b, off, cap, rfl, hc1, hc2, hb, hcell⟩ := hrd.at hl
    have HC := (show Hid (∀ j, j < l.length → w.cell? ⟨b, off + j, none⟩ = some (.int .u8 (l.getD j 0))) from hcell)
    clear hcell hrd
    go_enter Tryz.func110, Tryz.ntmps110
    go_wp2_with fail
    go_loop [3, 8] (fun n i => ∃ k : Nat, k ≤ l.length ∧ i = .int .i64 k ∧ n = .int .i64 (val (l.take k))) (fun _ i => l.length - (intOf i).toNat)
    case atStart => exact ⟨0, by omega, rfl, rfl⟩
    case round =>
      obtain ⟨k, hk, rfl, rfl⟩ := hrel
      have hv := val_bd (l.take k)
      rw [List.length_take, Nat.min_eq_left hk] at hv
      by_cases hkl : k < l.length
      · obtain ⟨x, hx⟩ : ∃ x, x = l.getD k 0 := ⟨_, rfl⟩
        have hcx : w.cell? ⟨b, off + k, none⟩ = some (.int .u8 x) := by rw [hx]; exact HC.out _ hkl
        have hxb := hbyt.getD k
        rw [← hx] at hxb
        have hvt := val_take l k hkl
        rw [← hx] at hvt
        have HV := (show Hid (val (l.take (k + 1)) = val (l.take k) + x % 128 * 128 ^ k) from hvt)
        clear hx hvt
        generalize val (l.take k) = y at *
        have hk4 : k ≤ 4 := by omega
        go_wp2_with fail
        go_round
        case rel => exact ⟨k + 1, by omega, by go_num, by rw [shift_val x y k hk4 hv.1 hv.2, HV.out]⟩
        case measure => simp [intOf]; omega
      · go_wp2_with fail
        go_ret
        have e : k = l.length := by omega
        subst e
        rw [List.take_length]
        exact ⟨rfl, rfl⟩
  · have hl0 : l = [] := List.eq_nil_of_length_eq_zero (by omega)
    subst hl0
    obtain ⟨ao, cap, rfl, hc⟩ := hrd.empty rfl
    clear hrd
    go_enter Tryz.func110, Tryz.ntmps110
    go_wp2_with fail
    refine wp_loop_rounds 1 ?_; rw [rounds_succ]
    go_wp2_with fail
    go_ret
    exact ⟨rfl, rfl⟩

/-- A part of a slice of bytes. -/
theorem Rd.part {w : World} {b off : Nat} {l : List Int} (hb : Byt l) (hc : ∀ j, j < l.length → w.cell? ⟨b, off + j, none⟩ = some (.int .u8 (l.getD j 0)))
    (lo n : Nat) (h : lo + n ≤ l.length) (c : Nat) (hc1 : n ≤ c) (hc2 : c ≤ maxLen) : Rd w (.slice (some ⟨b, off + lo, none⟩) n c) ((l.drop lo).take n) := by
  have hlen : (bc ((l.drop lo).take n)).length = n := by rw [bc_len, List.length_take, List.length_drop]; omega
  refine ⟨(hb.drop _).take _, some ⟨b, off + lo, none⟩, c, by rw [hlen], by rw [hlen]; exact hc1, hc2, fun e => (by cases e), fun a ha j u hu => ?_⟩
  cases ha
  have hj : j < n := by
    rcases Nat.lt_or_ge j n with h | h
    · exact h
    · rw [List.getElem?_eq_none (by omega)] at hu; cases hu
  have e : (⟨b, off + lo, none⟩ : Addr).add j = ⟨b, off + (lo + j), none⟩ := by unfold Addr.add; split <;> simp_all [Nat.add_assoc]
  rw [e, hc (lo + j) (by omega)]
  rw [bc_getD _ _ (by rw [List.length_take, List.length_drop]; omega)] at hu
  rw [← hu]
  simp [List.getD, hj]

set_option maxHeartbeats 400000 in
/-- octet.GetInt, inside the bytes. -/
theorem getInt_in (w : World) (v : Value) (l : List Int) (p : Nat) (hrd : Rd w v l) (hlen : l.length ≤ 281474976710656) (hp : p ≤ l.length) :
    Calls Tryz.prog 65 #[v, .int .i64 p] w fun e w' => e = .returned (.tuple #[.int .i64 (getI l p).1, .int .i64 (getI l p).2.1, .int .i64 (getI l p).2.2]) ∧ w' = w := by
  have hcl := cnt_le 5 (l.drop p)
  rw [List.length_drop] at hcl
  obtain ⟨ao, n, cap, rfl⟩ : ∃ ao n cap, v = .slice ao n cap := by obtain ⟨_, ao, cap, rfl, _⟩ := hrd; exact ⟨_, _, _, rfl⟩
  obtain rfl : n = l.length := by obtain ⟨_, ao', cap', e, _⟩ := hrd; injection e with _ e _; rw [e, bc_len]
  by_cases h0 : cnt 5 (l.drop p) = 0
  · rw [getI_none p hp (by unfold num; rw [if_pos h0])]
    go_enter Tryz.func65, Tryz.ntmps65
    go_wp2_with (go_at_call 109; refine (groupsAt_any _ _ l p hrd hlen hp).mono ?_; rintro e w' ⟨rfl, rfl⟩)
    go_ret3
    exact ⟨rfl, rfl⟩
  · have hbyt := hrd.1
    obtain ⟨b, off, cap', e, hc1, hc2, hb, hcell⟩ := hrd.at (by omega)
    injection e with e1 _ e2
    subst e1 e2
    obtain ⟨k, hk⟩ : ∃ k, cnt 5 (l.drop p) = k := ⟨_, rfl⟩
    have hnum : num (l.drop p) = if 1 < k ∧ (l.drop p).getD (k - 1) 0 = 0 then none else if 2147483647 < val ((l.drop p).take k) then none else some (val ((l.drop p).take k), k) := by
      unfold num; rw [if_neg h0, hk]
    have hgr := groupsAt_any w _ l p hrd hlen hp
    rw [hk] at hgr hcl h0
    have hy : (l.drop p).getD (k - 1) 0 = l.getD (p + k - 1) 0 := by simp [List.getD]; congr 2; omega
    have hcy : w.cell? ⟨b, off + (p + k - 1), none⟩ = some (.int .u8 (l.getD (p + k - 1) 0)) := hcell _ (by omega)
    have hyb := hbyt.getD (p + k - 1)
    rw [hy] at hnum
    clear hy
    generalize l.getD (p + k - 1) 0 = y at *
    have hpart : Rd w (.slice (some ⟨b, off + p, none⟩) k (cap - p)) ((l.drop p).take k) := Rd.part hbyt hcell p k (by omega) _ (by omega) (by unfold maxLen at *; omega)
    have hjoin := joinGroups_any w _ _ hpart (by rw [List.length_take]; omega)
    clear hcell hpart hbyt hrd hk
    have hvb := val_bd ((l.drop p).take k)
    rw [List.length_take] at hvb
    generalize val ((l.drop p).take k) = z at *
    have HG := (show Hid (∀ _ : Unit, Calls Tryz.prog 109 #[.slice (some ⟨b, off, none⟩) l.length cap, .int .i64 p] w fun e w' => e = .returned (.int .i64 k) ∧ w' = w) from fun _ => hgr)
    have HJ := (show Hid (∀ _ : Unit, Calls Tryz.prog 110 #[.slice (some ⟨b, off + p, none⟩) k (cap - p)] w fun e w' => e = .returned (.int .i64 z) ∧ w' = w) from fun _ => hjoin)
    clear hgr hjoin
    by_cases hk1 : 1 < k
    · by_cases hy0 : y = 0
      · rw [getI_none p hp (by rw [hnum, if_pos ⟨hk1, hy0⟩])]
        clear hnum
        subst hy0
        go_enter Tryz.func65, Tryz.ntmps65
        go_wp2_with (go_at_call 109; refine (HG.out ()).mono ?_; rintro e w' ⟨rfl, rfl⟩)
        go_ret3
        exact ⟨rfl, rfl⟩
      · have hyy : (y == 0) = false := by simp [hy0]
        by_cases hz : 2147483647 < z
        · rw [getI_none p hp (by rw [hnum, if_neg (fun h => hy0 h.2), if_pos hz])]
          clear hnum hy0
          go_enter Tryz.func65, Tryz.ntmps65
          go_wp2_with (first | (go_at_call 109; refine (HG.out ()).mono ?_; rintro e w' ⟨rfl, rfl⟩) | (go_at_call 110; refine (HJ.out ()).mono ?_; rintro e w' ⟨rfl, rfl⟩))
          go_ret3
          exact ⟨rfl, rfl⟩
        · rw [getI_some p hp (by rw [hnum, if_neg (fun h => hy0 h.2), if_neg hz])]
          clear hnum hy0
          go_enter Tryz.func65, Tryz.ntmps65
          go_wp2_with (first | (go_at_call 109; refine (HG.out ()).mono ?_; rintro e w' ⟨rfl, rfl⟩) | (go_at_call 110; refine (HJ.out ()).mono ?_; rintro e w' ⟨rfl, rfl⟩))
          go_ret3
          exact ⟨rfl, rfl⟩
    · have hk2 : k = 1 := by omega
      have hkd : decide ((1 : Int) < (k : Int)) = false := by simp; omega
      by_cases hz : 2147483647 < z
      · rw [getI_none p hp (by rw [hnum, if_neg (fun h => hk1 h.1), if_pos hz])]
        clear hnum hk2
        go_enter Tryz.func65, Tryz.ntmps65
        go_wp2_with (first | (go_at_call 109; refine (HG.out ()).mono ?_; rintro e w' ⟨rfl, rfl⟩) | (go_at_call 110; refine (HJ.out ()).mono ?_; rintro e w' ⟨rfl, rfl⟩))
        go_ret3
        exact ⟨rfl, rfl⟩
      · rw [getI_some p hp (by rw [hnum, if_neg (fun h => hk1 h.1), if_neg hz])]
        clear hnum hk2
        go_enter Tryz.func65, Tryz.ntmps65
        go_wp2_with (first | (go_at_call 109; refine (HG.out ()).mono ?_; rintro e w' ⟨rfl, rfl⟩) | (go_at_call 110; refine (HJ.out ()).mono ?_; rintro e w' ⟨rfl, rfl⟩))
        go_ret3
        exact ⟨rfl, rfl⟩

/-- octet.GetInt. -/
theorem getInt_any (w : World) (v : Value) (l : List Int) (p : Int) (hrd : Rd w v l) (hlen : l.length ≤ 281474976710656) :
    Calls Tryz.prog 65 #[v, .int .i64 p] w fun e w' => e = .returned (.tuple #[.int .i64 (getI l p).1, .int .i64 (getI l p).2.1, .int .i64 (getI l p).2.2]) ∧ w' = w := by
  by_cases h0 : 0 ≤ p ∧ p ≤ (l.length : Int)
  · obtain ⟨q, rfl⟩ := Int.eq_ofNat_of_zero_le h0.1
    exact getInt_in w v l q hrd hlen (by omega)
  · obtain ⟨ao, n, cap, rfl⟩ : ∃ ao n cap, v = .slice ao n cap := by obtain ⟨_, ao, cap, rfl, _⟩ := hrd; exact ⟨_, _, _, rfl⟩
    obtain rfl : n = l.length := by obtain ⟨_, ao', cap', e, _⟩ := hrd; injection e with _ e _; rw [e, bc_len]
    clear hrd
    rw [getI_out (by omega)]
    by_cases h1 : p < 0
    · clear h0
      go_enter Tryz.func65, Tryz.ntmps65
      go_wp2_with fail
      go_ret3
      exact ⟨rfl, rfl⟩
    · have h2 : (l.length : Int) < p := by omega
      clear h0
      go_enter Tryz.func65, Tryz.ntmps65
      go_wp2_with fail
      go_ret3
      exact ⟨rfl, rfl⟩

/-- Two texts are the same just if their bytes are. -/
theorem str_eq {a b : List Int} (ha : Byt a) (hb : Byt b) : ((strOfNums a).toList == (strOfNums b).toList) = decide (a = b) := by
  rw [Bool.eq_iff_iff]
  simp only [beq_iff_eq, decide_eq_true_eq]
  refine ⟨fun h1 => ?_, fun h => by rw [h]⟩
  rw [ByteArray.toList_eq, ByteArray.toList_eq, strOfNums_data, strOfNums_data] at h1
  induction a generalizing b with
  | nil => cases b with
    | nil => rfl
    | cons y b => simp at h1
  | cons x a ih => cases b with
    | nil => simp at h1
    | cons y b =>
      simp only [List.map_cons, List.cons.injEq] at h1
      have hx := ha x (by simp)
      have hy := hb y (by simp)
      have e := congrArg UInt8.toNat h1.1
      simp at e
      rw [ih (fun z hz => ha z (by simp [hz])) (fun z hz => hb z (by simp [hz])) h1.2]
      congr 1
      omega

/-- What 'string(b)' makes of a slice of bytes. -/
theorem run_str {w : World} {v : Value} {l : List Int} (h : Rd w v l) : (convert 23 9 v).run Tryz.prog w = .ok (.string (strOfNums l)) w := by
  by_cases hl : 0 < l.length
  · obtain ⟨b, off, cap, rfl, hc1, hc2, hb, hcell⟩ := h.at hl
    exact run_convert_bytes_arg w 23 5 Tryz.underlying23 Tryz.underlying5 b off l.length cap l rfl hcell 9 Tryz.underlying9
  · have hl0 : l = [] := List.eq_nil_of_length_eq_zero (by omega)
    subst hl0
    obtain ⟨ao, cap, rfl, hc⟩ := h.empty rfl
    have e : strOfNums [] = ByteArray.empty := rfl
    rw [e]
    cases ao with
    | none => exact run_convert_bytes_nil w 23 5 Tryz.underlying23 Tryz.underlying5 0 cap 9 Tryz.underlying9
    | some a =>
      rw [run_convert_bytes_string w 23 9 5 (some a) 0 cap Tryz.underlying23 Tryz.underlying5 Tryz.underlying9, run_bytesToString w a 0 cap [] (by simp [loadCells, loadCellsFrom])]
      rfl

/-- catenaryref01.Same. -/
theorem same_any (w : World) (u v : Value) (a b : List Int) (ha : Rd w u a) (hb : Rd w v b) :
    Calls Tryz.prog 11 #[u, v] w fun e w' => e = .returned (.bool (decide (a = b))) ∧ w' = w := by
  have h1 := run_str ha
  have h2 := run_str hb
  have h3 := str_eq ha.1 hb.1
  clear ha hb
  rw [← h3]
  clear h3
  go_enter Tryz.func11, Tryz.ntmps11
  go_wp2_with fail
  go_ret
  exact ⟨rfl, rfl⟩
end Go.Proofs.YtgjepofinpmcpaaGreatDoor
end

section
namespace Go.Proofs.YtgjepofinpmcpaaGreatDoor
open Go.RowKit Oct

theorem own_one (w : World) (x : Int) (e : TypeId) : Own (w.alloc (.cells #[.int .u8 x] e)) e (.slice (some ⟨w.heap.size, 0, none⟩) 1 1) (bc [x]) :=
  World.ownsRow_lit (base := 0) (size := 1) w #[.int .u8 x] 1 (Nat.zero_le _) (by decide) rfl

theorem refInt_fuel : ∀ (f : Nat) (n : Int) (w : World), 0 ≤ n → n < 128 ^ (f + 1) → n ≤ 2147483647 →
    Calls Tryz.prog 85 #[.int .i64 n] w fun e w' => ∃ v, e = .returned (.tuple #[v, .int .i64 0]) ∧ Own w' 5 v (bc (enc n)) ∧ Fr w.heap.size v ∧ Below w.heap.size w w' := by
  intro f
  induction f with
  | zero =>
    intro n w h0 h1 h2
    have hn : n < 128 := by omega
    rw [enc_small n hn]
    clear h1
    go_enter Tryz.func85, Tryz.ntmps85
    go_wp2_with fail
    go_ret2
    exact ⟨_, rfl, own_one w n _, fr_at _ _ _ _ (Nat.le_refl _), below_alloc _ _⟩
  | succ f ih =>
    intro n w h0 h1 h2
    by_cases hn : n < 128
    · rw [enc_small n hn]
      clear h1 ih
      go_enter Tryz.func85, Tryz.ntmps85
      go_wp2_with fail
      go_ret2
      exact ⟨_, rfl, own_one w n _, fr_at _ _ _ _ (Nat.le_refl _), below_alloc _ _⟩
    · have e : (128 : Int) ^ (f + 1 + 1) = 128 ^ (f + 1) * 128 := Int.pow_succ ..
      rw [e] at h1
      have ih' := ih (n / 128) w (by omega) (by omega) (by omega)
      have HI := (show Hid (∀ _ : Unit, _) from fun _ => ih')
      rw [enc_great n (by omega) (by omega)]
      have hl := enc_len (n / 128)
      clear ih ih' e h1
      go_enter Tryz.func85, Tryz.ntmps85
      go_wp2_with (first | (go_at_call 85; refine (HI.out ()).mono ?_; rintro e w1 ⟨r, rfl, hown, hfr, hb⟩) | (at_builtin; refine app_bytes rfl _ _ rfl _ [n % 128 + 128] rfl (own_one w1 (n % 128 + 128) 5) r (enc (n / 128)) rfl (hown.below (below_alloc w1 _)).rdv (by simp only [List.length_cons, List.length_nil]; omega) ?_; intro v2 w2 happ))
      go_ret2
      refine ⟨_, rfl, happ.own, ?_, ?_⟩
      · exact happ.fr (fr_at _ _ _ _ hb.size) (by have := hb.size; simp; omega)
      · exact (hb.trans ((below_alloc w1 _).mono hb.size)).trans (happ.below (fr_at _ _ _ _ hb.size) (by have := hb.size; simp; omega))

/-- catenaryref01.Int. -/
theorem refInt_any (w : World) (n : Int) :
    Calls Tryz.prog 85 #[.int .i64 n] w fun e w' => ∃ v, e = .returned (.tuple #[v, .int .i64 (errI n)]) ∧ Own w' 5 v (bc (outI n)) ∧ Fr w.heap.size v ∧ Below w.heap.size w w' := by
  by_cases h0 : n < 0
  · rw [errI_no (.inl h0), outI_no (.inl h0)]
    go_enter Tryz.func85, Tryz.ntmps85
    go_wp2_with fail
    go_ret2
    exact ⟨_, rfl, Own.nil _ _, Fr.nil _, Below.refl _ _⟩
  by_cases h1 : 2147483647 < n
  · rw [errI_no (.inr h1), outI_no (.inr h1)]
    go_enter Tryz.func85, Tryz.ntmps85
    go_wp2_with fail
    go_ret2
    exact ⟨_, rfl, Own.nil _ _, Fr.nil _, Below.refl _ _⟩
  · rw [errI_yes (by omega) (by omega), outI_yes (by omega) (by omega)]
    exact refInt_fuel 4 n w (by omega) (by omega) (by omega)

theorem mul_val (x y q : Int) (hq0 : 1 ≤ q) (hq : q ≤ 268435456) (y0 : 0 ≤ y) (y1 : y < q) : wrap64 (y + wrap64 (x % 128 * q)) = y + x % 128 * q := by
  have m1 : 0 ≤ x % 128 * q := Int.mul_nonneg (by omega) (by omega)
  have m2 : x % 128 * q ≤ 128 * 268435456 := Int.mul_le_mul (by omega) hq (by omega) (by omega)
  generalize x % 128 * q = r at *
  rw [IntWalk.wrap64_in r ⟨by omega, by omega⟩, IntWalk.wrap64_in (y + r) ⟨by omega, by omega⟩]
theorem pow_bd (k : Nat) (hk : k ≤ 4) : 1 ≤ (128 : Int) ^ k ∧ (128 : Int) ^ k ≤ 268435456 := by
  rcases (show k = 0 ∨ k = 1 ∨ k = 2 ∨ k = 3 ∨ k = 4 from by omega) with h | h | h | h | h <;> subst h <;> decide

set_option maxHeartbeats 400000 in
/-- catenaryref01.GetInt, inside the bytes. -/
theorem refGetInt_in (w : World) (v : Value) (l : List Int) (p : Nat) (hrd : Rd w v l) (hlen : l.length ≤ 281474976710656) (hp : p ≤ l.length) :
    Calls Tryz.prog 80 #[v, .int .i64 p] w fun e w' => e = .returned (.tuple #[.int .i64 (getI l p).1, .int .i64 (getI l p).2.1, .int .i64 (getI l p).2.2]) ∧ Below w.heap.size w w' := by
  by_cases hl : 0 < l.length
  · have hbyt := hrd.1
    obtain ⟨b, off, cap, rfl, hc1, hc2, hb, hcell⟩ := hrd.at hl
    have HC := (show Hid (∀ j, j < l.length → w.cell? ⟨b, off + j, none⟩ = some (.int .u8 (l.getD j 0))) from hcell)
    clear hcell hrd
    obtain ⟨g, hg⟩ : ∃ g, g = getI l p := ⟨_, rfl⟩
    rw [← hg]
    have HG := (show Hid (g = getI l p) from hg)
    clear hg
    go_enter Tryz.func80, Tryz.ntmps80
    go_wp2_with fail
    go_loop [7, 8, 9] (fun n q i => ∃ k : Nat, k ≤ 5 ∧ i = .int .i64 ((p : Int) + k) ∧ n = .int .i64 (val ((l.drop p).take k)) ∧ q = .int .i64 (128 ^ k) ∧ Hid (More (l.drop p) k)) (fun _ _ i => 5 + p - (intOf i).toNat)
    case atStart => exact ⟨0, by omega, by simp, rfl, rfl, More.zero _⟩
    case round =>
      obtain ⟨k, hk, rfl, rfl, rfl, hm⟩ := hrel
      by_cases hk5 : k < 5
      · by_cases hpk : p + k < l.length
        · obtain ⟨x, hx⟩ : ∃ x, x = l.getD (p + k) 0 := ⟨_, rfl⟩
          have hcx : w.cell? ⟨b, off + (p + k), none⟩ = some (.int .u8 x) := by rw [hx]; exact HC.out _ hpk
          have hxb := hbyt.getD (p + k)
          rw [← hx] at hxb
          have hx' : (l.drop p).getD k 0 = x := by rw [hx]; simp [List.getD]
          have hdl : k < (l.drop p).length := by rw [List.length_drop]; omega
          have hvt := val_take (l.drop p) k hdl
          rw [hx'] at hvt
          have hv := val_bd ((l.drop p).take k)
          rw [List.length_take, Nat.min_eq_left (by omega)] at hv
          have hq := pow_bd k (by omega)
          have hmul := mul_val x (val ((l.drop p).take k)) (128 ^ k) hq.1 hq.2 hv.1 hv.2
          rw [← hvt] at hmul
          have HX := (show Hid ((l.drop p).getD k 0 = x) from hx')
          clear hx hx' hvt
          by_cases hx : 128 ≤ x
          · go_wp2_with fail
            go_round
            case rel =>
              refine ⟨_, _, _, _, _, _, ?_, rfl, rfl, rfl, rfl, rfl, rfl⟩
              exact ⟨k + 1, by omega, by go_num, rfl, by rw [Int.pow_succ], hm.out.succ hdl (by rw [HX.out]; omega)⟩
            case measure => simp [intOf]; omega
          · have hcnt := cnt_hit 5 k (l.drop p) hm.out hk5 hdl (by rw [HX.out]; omega)
            have hnum : num (l.drop p) = if 1 < k + 1 ∧ x = 0 then none else if 2147483647 < val ((l.drop p).take (k + 1)) then none else some (val ((l.drop p).take (k + 1)), k + 1) := by
              unfold num; rw [hcnt, if_neg (by omega), Nat.add_sub_cancel, HX.out]
            have hown1 := len_own (l.drop p) k (hbyt.drop p) hm.out hdl (by rw [HX.out]; omega) (by omega)
            have hown2 := len_short (l.drop p) k hdl (by omega)
            have hv2 := val_bd ((l.drop p).take (k + 1))
            rw [HX.out] at hown1 hown2
            clear hcnt
            generalize val ((l.drop p).take (k + 1)) = z at *
            by_cases hz : 2147483647 < z
            · have hgv : g = (0, 0, 11) := by
                rw [HG.out]
                refine getI_none p hp ?_
                rw [hnum]
                split
                · rfl
                · rfl
              clear HG hnum hown1 hown2 HC HX hm
              subst hgv
              have hI := refInt_any w z
              rw [errI_no (.inr hz)] at hI
              have HI := (show Hid (∀ _ : Unit, _) from fun _ => hI)
              clear hI
              go_wp2_with (go_at_call 85; refine (HI.out ()).mono ?_; rintro e w1 ⟨r, rfl, hown, hfr, hb1⟩)
              go_ret3
              exact ⟨rfl, hb1⟩
            · have hI := refInt_any w z
              rw [errI_yes (by omega) (by omega), outI_yes (by omega) (by omega)] at hI
              have HI := (show Hid (∀ _ : Unit, _) from fun _ => hI)
              clear hI
              by_cases hx0 : 1 < k + 1 ∧ x = 0
              · have hgv : g = (0, 0, 11) := by
                  rw [HG.out]
                  exact getI_none p hp (by rw [hnum, if_pos hx0])
                have hne := hown2 (by omega) hx0.2
                clear HG hnum hown1 hown2 HC HX hm hx0
                subst hgv
                generalize enc z = ez at *
                have hne' : ((ez.length : Int) != (p : Int) + k - p + 1) = true := by rw [bne_iff_ne]; omega
                go_wp2_with (go_at_call 85; refine (HI.out ()).mono ?_; rintro e w1 ⟨r, rfl, hown, hfr, hb1⟩; obtain ⟨ao, rc, rfl, hrc⟩ := hown.form; rw [bc_len])
                go_ret3
                exact ⟨rfl, hb1⟩
              · have hgv : g = (z, (p : Int) + (k + 1 : Nat), 0) := by
                  rw [HG.out]
                  exact getI_some p hp (by rw [hnum, if_neg hx0, if_neg hz])
                have heq := hown1 (by omega)
                clear HG hnum hown1 hown2 HC HX hm hx0
                subst hgv
                generalize enc z = ez at *
                have heq' : ((ez.length : Int) != (p : Int) + k - p + 1) = false := by rw [bne_eq_false_iff_eq]; omega
                clear heq
                go_wp2_with (go_at_call 85; refine (HI.out ()).mono ?_; rintro e w1 ⟨r, rfl, hown, hfr, hb1⟩; obtain ⟨ao, rc, rfl, hrc⟩ := hown.form; rw [bc_len])
                go_ret3
                exact ⟨by simp [Int.add_assoc], hb1⟩
        · have hgv : g = (0, 0, 11) := by
            rw [HG.out]
            exact getI_none p hp (by unfold num; rw [cnt_end 5 k (l.drop p) hm.out hk (by rw [List.length_drop]; omega), if_pos rfl])
          clear HG HC hm
          subst hgv
          have hd : decide ((p : Int) + k < l.length) = false := by simp; omega
          go_wp2_with fail
          go_ret3
          exact ⟨rfl, Below.refl _ _⟩
      · have hgv : g = (0, 0, 11) := by
          rw [HG.out]
          exact getI_none p hp (by unfold num; rw [cnt_end 5 k (l.drop p) hm.out hk (by omega), if_pos rfl])
        clear HG HC hm
        subst hgv
        by_cases hpk : p + k < l.length
        · go_wp2_with fail
          go_ret3
          exact ⟨rfl, Below.refl _ _⟩
        · have hd : decide ((p : Int) + k < l.length) = false := by simp; omega
          go_wp2_with fail
          go_ret3
          exact ⟨rfl, Below.refl _ _⟩
  · have hp0 : p = 0 := by omega
    subst hp0
    have hl0 : l = [] := List.eq_nil_of_length_eq_zero (by omega)
    subst hl0
    obtain ⟨ao, cap, rfl, hc⟩ := hrd.empty rfl
    clear hrd
    have hgv : getI [] 0 = (0, 0, 11) := by decide
    have hgv' : getI [] ((0 : Nat) : Int) = (0, 0, 11) := hgv
    rw [hgv']
    clear hgv hgv'
    go_enter Tryz.func80, Tryz.ntmps80
    go_wp2_with fail
    refine wp_loop_rounds 1 ?_; rw [rounds_succ]
    go_wp2_with fail
    go_ret3
    exact ⟨rfl, Below.refl _ _⟩

/-- catenaryref01.GetInt. -/
theorem refGetInt_any (w : World) (v : Value) (l : List Int) (p : Int) (hrd : Rd w v l) (hlen : l.length ≤ 281474976710656) :
    Calls Tryz.prog 80 #[v, .int .i64 p] w fun e w' => e = .returned (.tuple #[.int .i64 (getI l p).1, .int .i64 (getI l p).2.1, .int .i64 (getI l p).2.2]) ∧ Below w.heap.size w w' := by
  by_cases h0 : 0 ≤ p ∧ p ≤ (l.length : Int)
  · obtain ⟨q, rfl⟩ := Int.eq_ofNat_of_zero_le h0.1
    exact refGetInt_in w v l q hrd hlen (by omega)
  · obtain ⟨ao, n, cap, rfl⟩ : ∃ ao n cap, v = .slice ao n cap := by obtain ⟨_, ao, cap, rfl, _⟩ := hrd; exact ⟨_, _, _, rfl⟩
    obtain rfl : n = l.length := by obtain ⟨_, ao', cap', e, _⟩ := hrd; injection e with _ e _; rw [e, bc_len]
    clear hrd
    rw [getI_out (by omega)]
    by_cases h1 : p < 0
    · clear h0
      go_enter Tryz.func80, Tryz.ntmps80
      go_wp2_with fail
      go_ret3
      exact ⟨rfl, Below.refl _ _⟩
    · have h2 : (l.length : Int) < p := by omega
      clear h0
      go_enter Tryz.func80, Tryz.ntmps80
      go_wp2_with fail
      go_ret3
      exact ⟨rfl, Below.refl _ _⟩

end Go.Proofs.YtgjepofinpmcpaaGreatDoor
end

section
namespace Go.Proofs.YtgjepofinpmcpaaGreatDoor
open Go.RowKit Oct

theorem Rd.form {w : World} {v : Value} {l : List Int} (h : Rd w v l) : ∃ ao cap, v = .slice ao l.length cap ∧ cap ≤ maxLen := by
  obtain ⟨_, ao, cap, rfl, _, h2, _⟩ := h
  exact ⟨ao, cap, by rw [bc_len], h2⟩

/-- octet.appendText. -/
theorem appendText_any (w : World) (v p : Value) (l lp : List Int) (hown : Own w 5 v (bc l)) (hp : Rd w p lp) (hap : lp ≠ [] → ∀ k, v.ownBlock = some k → p.ownBlock ≠ some k) (hl : l.length + lp.length ≤ 140737488355300) :
    Calls Tryz.prog 78 #[v, p] w fun e w' => ∃ v', e = .returned v' ∧ App w 5 v w' v' (bc (l ++ enc lp.length ++ lp)) := by
  obtain ⟨ao, cap, rfl, hc⟩ := hp.form
  have hle := enc_len (lp.length : Int)
  go_enter Tryz.func78, Tryz.ntmps78
  go_wp2_with fail
  refine (appendInt_any w v l (lp.length : Int) hown (by omega) (by omega) (by omega)).mono ?_
  rintro e w1 ⟨v1, rfl, happ⟩
  have hp1 := hp.grown happ.grown hap
  go_wp2_with (at_builtin; refine app_bytes rfl _ _ rfl v1 (l ++ enc lp.length) rfl happ.own _ lp rfl hp1.2 (by simp only [List.length_append]; omega) ?_; intro v2 w2 happ2)
  go_ret
  exact ⟨_, rfl, happ.trans happ2⟩

/-- octet.Bytes. -/
theorem bytes_any (w : World) (p : Value) (lp : List Int) (hp : Rd w p lp) (hl : lp.length ≤ 140737488355300) :
    Calls Tryz.prog 127 #[p] w fun e w' => ∃ v', e = .returned v' ∧ Own w' 5 v' (bc (enc lp.length ++ lp)) ∧ Fr w.heap.size v' ∧ Below w.heap.size w w' := by
  go_enter Tryz.func127, Tryz.ntmps127
  go_wp2_with fail
  refine (appendText_any w (.slice none 0 0) p [] lp (Own.nil _ _) hp (fun _ k hk => by simp [Value.ownBlock] at hk) (by simpa using hl)).mono ?_
  rintro e w1 ⟨v1, rfl, happ⟩
  rw [List.nil_append] at happ
  go_wp2_with fail
  go_ret
  exact ⟨_, rfl, happ.own, happ.fr (Fr.nil _) (Nat.le_refl _), happ.below (Fr.nil _) (Nat.le_refl _)⟩

/-- catenaryref01.Bytes. -/
theorem refBytes_any (w : World) (p : Value) (lp : List Int) (hp : Rd w p lp) (hl : lp.length ≤ 2147483647) :
    Calls Tryz.prog 51 #[p] w fun e w' => ∃ v', e = .returned v' ∧ Own w' 5 v' (bc (enc lp.length ++ lp)) ∧ Fr w.heap.size v' ∧ Below w.heap.size w w' := by
  obtain ⟨ao, cap, rfl, hc⟩ := hp.form
  have hle := enc_len (lp.length : Int)
  have hI := refInt_any w (lp.length : Int)
  rw [errI_yes (by omega) (by omega), outI_yes (by omega) (by omega)] at hI
  go_enter Tryz.func51, Tryz.ntmps51
  go_wp2_with fail
  refine hI.mono ?_
  rintro e w1 ⟨v1, rfl, hown, hfr, hb⟩
  clear hI
  have hp1 := hp.below hb
  go_wp2_with (at_builtin; refine app_bytes rfl _ _ rfl v1 (enc lp.length) rfl hown _ lp rfl hp1.2 (by omega) ?_; intro v2 w2 happ2)
  go_ret
  exact ⟨_, rfl, happ2.own, happ2.fr hfr hb.size, hb.trans (happ2.below hfr hb.size)⟩

/-- 'make([]byte, n)'. -/
theorem run_mk (n : Nat) (hn : n ≤ 281474976710656) (u : World) : (Instr.makeSlice 23 (.int .i64 (n : Int)) (.int .i64 (n : Int))).run Tryz.prog u =
    .ok (.slice (some ⟨u.heap.size, 0, none⟩) n n) (u.alloc (.cells (madeCells #[.int .u8 0] n) 5)) := by
  obtain ⟨i0, hi, hz0, hz1, hz2⟩ := info_parts Tryz.info5
  have h := run_make (P := Tryz.prog) u 23 5 i0 (.int .u8 0) Tryz.underlying23 hi hz0 .i64 .i64 (n : Int) (n : Int) (by omega) (Int.le_refl _) (by rw [hz2]; omega) (by omega)
  rw [Int.toNat_natCast] at h
  simpa [hz1, Value.cells] using h

/-- 'copy(d, s)', d a whole row of n bytes that the call itself made, s at least as long. -/
theorem cpy {w : World} {ops : Array Oper} {rest : List Oper} {o : Oper} {a : Act} {Q : Exit → Act → World → Prop} (hgd : o.guard = none) (d s : Operand)
    (ho : o.op = .call { callee := .builtin .copy, args := #[d, s], argTypes := #[23, 23] }) (g n : Nat) (hd : a.eval d = .slice (some ⟨g, 0, none⟩) n n)
    (cur : Array Value) (hg : w.heap[g]? = some (.cells cur 5 (0, 0))) (hcs : cur.size = n) (sv : Value) (xs : List Int) (hs : a.eval s = sv) (hsrc : Rdv w sv (bc xs)) (hx : n ≤ xs.length) (hn : n ≤ maxLen)
    (h : ∀ w', Own w' 5 (.slice (some ⟨g, 0, none⟩) n n) (bc (xs.take n)) → w.grownBy w' (some g) → wpList Tryz.prog ops Q rest (a.put o.dst (goInt n)) w') : wpList Tryz.prog ops Q (o :: rest) a w := by
  have hlen : (bc (xs.take n)).length = n := by rw [bc_len, List.length_take]; omega
  obtain ⟨ao, cap, rfl, c1, c2, c3, c4⟩ := hsrc
  have hsz : (Tryz.prog.info? 5).map (·.size) = some 1 := by kernel_rfl
  have hmin : Nat.min (bc xs).length n = n := by rw [bc_len]; exact Nat.min_eq_right hx
  by_cases h0 : n = 0
  · refine wpList_copy_nothing hgd d s 23 23 ho 5 Tryz.underlying23 hsz _ _ _ _ _ _ hd hs (by rw [hmin, h0]) ?_
    have := h w ⟨by rw [hlen]; omega, .inr ⟨g, n, cur, by rw [hlen], Nat.zero_le _, hg, by rw [hlen]; exact Nat.le_refl _, hn, by omega, by rw [hlen, h0]; simp [bc]⟩⟩ ⟨rfl, rfl, rfl, Nat.le_refl _, fun _ _ _ => rfl⟩
    rw [h0] at this
    exact this
  · cases ao with
    | none => have := (c3 rfl).1; have e := congrArg List.length this; rw [bc_len] at e; simp at e; rw [e] at hx; simp at hx; omega
    | some ad =>
      have hsrc' : ∀ j v, (bc (xs.take n))[j]? = some v → w.cell? (ad.add j) = some v := fun j v hj => by
        refine c4 ad rfl j v ?_
        have hjn : j < n := by
          rcases Nat.lt_or_ge j n with h | h
          · exact h
          · rw [List.getElem?_eq_none (by omega)] at hj; cases hj
        rw [bc_getD _ _ (by rw [List.length_take]; omega)] at hj
        rw [bc_getD _ _ (by omega), ← hj]
        simp [List.getD, hjn]
      refine wpList_copy_own hgd d s 23 23 ho 5 Tryz.underlying23 hsz g 0 n n ad _ _ hd hs cur 5 hg (bc (xs.take n)) (by rw [hmin, hlen]) hsrc' (by rw [hlen]; omega) (bc_one _) ?_
      rw [hlen]
      refine h _ ⟨by rw [hlen]; omega, .inr ⟨g, n, _, by rw [hlen], Nat.zero_le _, setRow_heap w g cur _ 5 _ hg, by rw [hlen]; exact Nat.le_refl _, hn, ?_, ?_⟩⟩ ⟨rfl, rfl, rfl, by simp, fun k _ hk => setRow_other w g k _ (fun e => hk (by simp [e]))⟩
      · simp only [List.size_toArray, List.length_append, List.length_take, List.length_drop, Array.length_toList, hlen]; omega
      · rw [hlen]
        simp only [List.take_zero, List.nil_append, Nat.zero_add, Nat.mul_one]
        have e := List.take_left (l₁ := bc (xs.take n)) (l₂ := cur.toList.drop n)
        rw [hlen] at e
        exact e

theorem rdv_none (w : World) (a : Addr) (c : Nat) (h : c ≤ maxLen) : Rdv w (.slice (some a) 0 c) (bc []) :=
  ⟨some a, c, rfl, Nat.zero_le _, h, fun e => (by cases e), fun b hb j u hu => by simp [bc] at hu⟩
theorem made_size (n : Nat) : (madeCells #[Value.int .u8 0] n).size = n := by simp [madeCells]

set_option maxHeartbeats 400000 in
/-- octet.GetBytes. -/
theorem getBytes_any (w : World) (b : Value) (l : List Int) (p most : Int) (hb : Rd w b l) (hl : l.length ≤ 140737488355300) :
    Calls Tryz.prog 111 #[b, .int .i64 p, .int .i64 most] w fun e w' => ∃ v', e = .returned (.tuple #[v', .int .i64 (getB l p most).2.1, .int .i64 (getB l p most).2.2]) ∧
      Own w' 5 v' (bc (getB l p most).1) ∧ Fr w.heap.size v' ∧ Below w.heap.size w w' := by
  have hG := getInt_any w b l p hb (by omega)
  rcases getI_cases l p hb.1 with hg | ⟨n, k, q, hpq, hg, hn, k1, k5, kl, ht⟩
  · have hB : getB l p most = ([], 0, 11) := by unfold getB; rw [hg]; simp
    rw [hB]
    rw [hg] at hG
    clear hB hg
    go_enter Tryz.func111, Tryz.ntmps111
    go_wp2_with fail
    refine hG.mono ?_
    rintro e w1 ⟨rfl, rfl⟩
    clear hG
    go_wp2_with fail
    go_ret3
    exact ⟨_, rfl, Own.nil _ _, Fr.nil _, Below.refl _ _⟩
  · subst hpq
    clear ht
    rw [hg] at hG
    obtain ⟨bb, off, cap, rfl, hc1, hc2, hbb, hcell⟩ := hb.at (by omega)
    by_cases hm : most < (n : Int)
    · have hB : getB l (q : Int) most = ([], 0, 11) := by unfold getB; rw [hg]; simp; intros; omega
      rw [hB]
      clear hB hg
      go_enter Tryz.func111, Tryz.ntmps111
      go_wp2_with fail
      refine hG.mono ?_
      rintro e w1 ⟨rfl, rfl⟩
      clear hG hcell hb
      go_wp2_with fail
      go_ret3
      exact ⟨_, rfl, Own.nil _ _, Fr.nil _, Below.refl _ _⟩
    by_cases hr : (l.length : Int) - ((q + k : Nat) : Int) < (n : Int)
    · have hB : getB l (q : Int) most = ([], 0, 11) := by unfold getB; rw [hg]; simp; intros; omega
      rw [hB]
      clear hB hg
      go_enter Tryz.func111, Tryz.ntmps111
      go_wp2_with fail
      refine hG.mono ?_
      rintro e w1 ⟨rfl, rfl⟩
      clear hG hcell hb
      have hd : decide (most < (n : Int)) = false := by simp; omega
      go_wp2_with fail
      go_ret3
      exact ⟨_, rfl, Own.nil _ _, Fr.nil _, Below.refl _ _⟩
    · have hB : getB l (q : Int) most = ((l.drop (q + k)).take n, ((q + k + n : Nat) : Int), 0) := by unfold getB; rw [hg, if_neg (by simp; omega)]; simp only [Int.toNat_natCast]; simp
      rw [hB]
      clear hB hg
      generalize q + k = s at *
      go_enter Tryz.func111, Tryz.ntmps111
      go_wp2_with fail
      refine hG.mono ?_
      rintro e w1 ⟨rfl, rfl⟩
      clear hG
      have hd : decide (most < (n : Int)) = false := by simp; omega
      have hd2 : decide ((l.length : Int) - (s : Int) < (n : Int)) = false := by simp; omega
      have hmk := run_mk n (by omega)
      have hnm : n ≤ maxLen := by unfold maxLen; omega
      by_cases hsc : s < cap
      · have hpart : Rd w1 (.slice (some ⟨bb, off + s, none⟩) (l.length - s) (cap - s)) ((l.drop s).take (l.length - s)) := Rd.part hb.1 hcell s (l.length - s) (by omega) _ (by omega) (by unfold maxLen at *; omega)
        rw [List.take_of_length_le (by rw [List.length_drop]; exact Nat.le_refl _)] at hpart
        have hp2 := hpart.below (below_alloc w1 (.cells (madeCells #[.int .u8 0] n) 5))
        clear hcell hb hpart
        go_wp2_with (refine cpy rfl _ _ rfl w1.heap.size n rfl _ (heap_alloc_new w1 _) (made_size n) _ (l.drop s) rfl hp2.2 (by rw [List.length_drop]; omega) hnm ?_; intro w2 hown hgr)
        go_ret3
        exact ⟨_, by simp, hown, fr_at _ _ _ _ (Nat.le_refl _), (below_alloc w1 _).trans (grown_below hgr (by simp) (fun k hk => by cases hk; exact Nat.le_refl _))⟩
      · have hs2 : cap = s := by omega
        subst hs2
        have hdr : l.drop cap = [] := List.drop_eq_nil_of_le (by omega)
        have hp2 : Rdv (w1.alloc (.cells (madeCells #[.int .u8 0] n) 5)) (.slice (some ⟨bb, off, none⟩) 0 0) (bc (l.drop cap)) := by
          rw [hdr]
          exact rdv_none _ _ 0 (Nat.zero_le _)
        clear hcell hb hdr
        go_wp2_with (refine cpy rfl _ _ rfl w1.heap.size n rfl _ (heap_alloc_new w1 _) (made_size n) _ (l.drop cap) rfl hp2 (by rw [List.length_drop]; omega) hnm ?_; intro w2 hown hgr)
        go_ret3
        exact ⟨_, by simp, hown, fr_at _ _ _ _ (Nat.le_refl _), (below_alloc w1 _).trans (grown_below hgr (by simp) (fun k hk => by cases hk; exact Nat.le_refl _))⟩

set_option maxHeartbeats 400000 in
/-- catenaryref01.GetBytes. -/
theorem refGetBytes_any (w : World) (b : Value) (l : List Int) (p most : Int) (hb : Rd w b l) (hl : l.length ≤ 140737488355300) :
    Calls Tryz.prog 120 #[b, .int .i64 p, .int .i64 most] w fun e w' => ∃ v', e = .returned (.tuple #[v', .int .i64 (getB l p most).2.1, .int .i64 (getB l p most).2.2]) ∧
      Own w' 5 v' (bc (getB l p most).1) ∧ Fr w.heap.size v' ∧ Below w.heap.size w w' := by
  have hG := refGetInt_any w b l p hb (by omega)
  rcases getI_cases l p hb.1 with hg | ⟨n, k, q, hpq, hg, hn, k1, k5, kl, ht⟩
  · have hB : getB l p most = ([], 0, 11) := by unfold getB; rw [hg]; simp
    rw [hB]
    rw [hg] at hG
    clear hB hg
    go_enter Tryz.func120, Tryz.ntmps120
    go_wp2_with fail
    refine hG.mono ?_
    rintro e w1 ⟨rfl, hb1⟩
    clear hG
    go_wp2_with fail
    go_ret3
    exact ⟨_, rfl, Own.nil _ _, Fr.nil _, hb1⟩
  · subst hpq
    clear ht
    rw [hg] at hG
    obtain ⟨bb, off, cap, rfl, hc1, hc2, hbb, hcell⟩ := hb.at (by omega)
    by_cases hm : most < (n : Int)
    · have hB : getB l (q : Int) most = ([], 0, 11) := by unfold getB; rw [hg]; simp; intros; omega
      rw [hB]
      clear hB hg
      go_enter Tryz.func120, Tryz.ntmps120
      go_wp2_with fail
      refine hG.mono ?_
      rintro e w1 ⟨rfl, hb1⟩
      clear hG hcell hb
      go_wp2_with fail
      go_ret3
      exact ⟨_, rfl, Own.nil _ _, Fr.nil _, hb1⟩
    by_cases hr : (l.length : Int) - ((q + k : Nat) : Int) < (n : Int)
    · have hB : getB l (q : Int) most = ([], 0, 11) := by unfold getB; rw [hg]; simp; intros; omega
      rw [hB]
      clear hB hg
      go_enter Tryz.func120, Tryz.ntmps120
      go_wp2_with fail
      refine hG.mono ?_
      rintro e w1 ⟨rfl, hb1⟩
      clear hG hcell hb
      have hd : decide (most < (n : Int)) = false := by simp; omega
      go_wp2_with fail
      go_ret3
      exact ⟨_, rfl, Own.nil _ _, Fr.nil _, hb1⟩
    · have hB : getB l (q : Int) most = ((l.drop (q + k)).take n, ((q + k + n : Nat) : Int), 0) := by unfold getB; rw [hg, if_neg (by simp; omega)]; simp only [Int.toNat_natCast]; simp
      rw [hB]
      clear hB hg
      generalize q + k = s at *
      go_enter Tryz.func120, Tryz.ntmps120
      go_wp2_with fail
      refine hG.mono ?_
      rintro e w1 ⟨rfl, hb1⟩
      clear hG
      have hd : decide (most < (n : Int)) = false := by simp; omega
      have hd2 : decide ((l.length : Int) - (s : Int) < (n : Int)) = false := by simp; omega
      by_cases hsc : s < cap
      · have hpart : Rd w (.slice (some ⟨bb, off + s, none⟩) n (cap - s)) ((l.drop s).take n) := Rd.part hb.1 hcell s n (by omega) _ (by omega) (by unfold maxLen at *; omega)
        have hp2 : Rd w1 (.slice (some ⟨bb, off + s, none⟩) (s + n - s) (cap - s)) ((l.drop s).take n) := by rw [Nat.add_sub_cancel_left]; exact hpart.below hb1
        clear hcell hb hpart
        go_wp2_with (at_builtin; refine app_copy rfl _ _ rfl rfl _ ((l.drop s).take n) rfl hp2 (by rw [List.length_take]; omega) ?_; intro v2 w2 hown hfr hb2)
        go_ret3
        exact ⟨_, by simp, hown, hfr.mono hb1.size, below_and hb1 (Nat.le_refl _) hb2⟩
      · have hs2 : cap = s := by omega
        subst hs2
        have hdr : (l.drop cap).take n = [] := by rw [List.drop_eq_nil_of_le (by omega)]; simp
        have hp2 : Rd w1 (.slice (some ⟨bb, off, none⟩) (cap + n - cap) 0) ((l.drop cap).take n) := by
          rw [hdr, show cap + n - cap = 0 by omega]
          exact ⟨Byt.nil, rdv_none _ _ 0 (Nat.zero_le _)⟩
        clear hcell hb hdr
        go_wp2_with (at_builtin; (refine app_copy rfl _ _ rfl rfl _ ((l.drop cap).take n) rfl hp2 (by rw [List.length_take]; omega) ?_; intro v2 w2 hown hfr hb2))
        go_ret3
        exact ⟨_, by simp, hown, hfr.mono hb1.size, below_and hb1 (Nat.le_refl _) hb2⟩

end Go.Proofs.YtgjepofinpmcpaaGreatDoor
end
