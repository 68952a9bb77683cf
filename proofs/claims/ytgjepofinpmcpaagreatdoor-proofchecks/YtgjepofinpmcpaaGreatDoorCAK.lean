/- sha.spread. -/
import Derived.Test.YtgjepofinpmcpaaGreatDoorCAI
import Derived.Deep.QuietTactic
import Derived.BigQuiet
import Derived.Test.YtgjepofinpmcpaaGreatDoorCAB
import Derived.Laws.Shifts
import Derived.Test.YtgjepofinpmcpaaGreatDoorCAG
section
namespace Go.Proofs.YtgjepofinpmcpaaGreatDoor
open Go.RowKit Oct

theorem Tryz.info23 : (Tryz.prog.info? 23).map (fun i => (i.zero, i.size, i.bytes)) = some (some (.slice none 0 0), 1, 24) := by kernel_rfl

/-- 'append(s, x...)' of texts, at this program. -/
theorem app_list {w : World} {ops : Array Oper} {rest : List Oper} {o : Oper} {a : Act} {Q : Exit → Act → World → Prop} (hgd : o.guard = none) (s x : Operand)
    (ho : o.op = .call { callee := .builtin .append, args := #[s, x], argTypes := #[82, 82] })
    (v : Value) (vs : List Value) (hs : a.eval s = v) (hown : Own w 23 v vs) (sv : Value) (us : List Value) (hx : a.eval x = sv) (hsrc : Rdv w sv us) (h1 : ∀ u ∈ us, u.oneCell' = true) (hb : vs.length + us.length ≤ 1000000000)
    (h : ∀ v' w', App w 23 v w' v' (vs ++ us) → wpList Tryz.prog ops Q rest (a.put o.dst v') w') : wpList Tryz.prog ops Q (o :: rest) a w := by
  obtain ⟨i0, hi, hz0, hz1, hz2⟩ := info_parts Tryz.info23
  exact wpList_app (wanted_none hgd) s x 82 ho 23 i0 (.slice none 0 0) 24 Tryz.underlying82 hi hz0 hz1 hz2 rfl v vs hs hown sv us hx hsrc h1 (by unfold maxLen; omega) (by omega) h

theorem Own.oneCell {w : World} {e : TypeId} {v : Value} {xs : List Value} (h : Own w e v xs) : v.oneCell' = true := by
  obtain ⟨ao, cap, rfl, _⟩ := h.form
  rfl
theorem own_elem (w : World) (x : Value) (e : TypeId) : Own (w.alloc (.cells #[x] e)) e (.slice (some ⟨w.heap.size, 0, none⟩) 1 1) [x] :=
  World.ownsRow_lit (base := 0) (size := 1) w #[x] 1 (Nat.zero_le _) (by decide) rfl
theorem own_zerol (w : World) (e : TypeId) : Own (w.alloc (.cells #[] e)) e (.slice (some ⟨w.heap.size, 0, none⟩) 0 0) [] :=
  World.ownsRow_lit (base := 0) (size := 1) w #[] 0 (Nat.zero_le _) (by decide) rfl

/-- Texts that the call itself made. -/
def Els (w : World) (vs : List Value) (ll : List (List Int)) : Prop := All2 (fun c l => Own w 5 c (bc l)) vs ll
theorem Els.below {w w' : World} {vs : List Value} {ll : List (List Int)} (h : Els w vs ll) (hb : Below w.heap.size w w') : Els w' vs ll := h.mono fun _ _ h => h.below hb
/-- They stay while a list of texts is appended to. -/
theorem Els.app {w w' : World} {v v' : Value} {vs us xs : List Value} {ll : List (List Int)} (h : Els w us ll) (hv : Own w 23 v vs) (ha : App w 23 v w' v' xs) : Els w' us ll :=
  h.mono fun _ _ h => h.grown ha.grown (hv.apart h (by decide))
theorem Els.rdl {w : World} {v : Value} {vs : List Value} {ll : List (List Int)} (h : Els w vs ll) (hv : Own w 23 v vs) (hb : Byts ll) : Rdl w v ll := by
  refine ⟨vs, hv.rdv, ?_⟩
  clear hv
  unfold Els at h
  induction ll generalizing vs with
  | nil => cases vs with
    | nil => trivial
    | cons x r => exact h.elim
  | cons l ll ih => cases vs with
    | nil => exact h.elim
    | cons x r => exact ⟨h.1.rd (hb l (by simp)), ih h.2 (fun y hy => hb y (by simp [hy]))⟩
theorem Els.snoc {w : World} {vs : List Value} {ll : List (List Int)} {c : Value} {l : List Int} (h : Els w vs ll) (hc : Own w 5 c (bc l)) : Els w (vs ++ [c]) (ll ++ [l]) := All2.app h ⟨hc, trivial⟩

theorem els_one {w : World} : ∀ {vs : List Value} {ll : List (List Int)}, Els w vs ll → ∀ u ∈ vs, u.oneCell' = true
  | [], _, _, u, hu => by cases hu
  | v :: vs, [], h, _, _ => h.elim
  | v :: vs, l :: ll, h, u, hu => by
    rcases List.mem_cons.1 hu with e | e
    · subst e; exact h.1.oneCell
    · exact els_one h.2 u e


theorem bel_drewN {B : Nat} {a w : World} (h : Below B a w) (n : Nat) : Below B a (w.drewN n) := h.trans ⟨rfl, rfl, rfl, Nat.le_refl _, fun _ _ => rfl⟩
theorem Rd.drewN {w : World} {v : Value} {l : List Int} (h : Rd w v l) (n : Nat) : Rd (w.drewN n) v l := h
theorem take_ne {α : Type} {a b : List α} {k : Nat} {x y : α} (ha : a[k]? = some x) (hb : b[k]? = some y) (h : x ≠ y) : a ≠ b := fun e => by
  subst e
  rw [ha] at hb
  exact h (Option.some.inj hb)


end Go.Proofs.YtgjepofinpmcpaaGreatDoor
end

section
namespace Go.Proofs.YtgjepofinpmcpaaGreatDoor
open Go.RowKit Oct Sha

theorem and31 (z : Int) (h0 : 0 ≤ z) (h1 : z < 18446744073709551616) : bits .and .u64 z 31 = z % 32 :=
  bits_mask .u64 64 (by decide) (fun n a b => by rw [IntKind.wrap_u64]; omega) 5 (by decide) z h0 h1

/-- A word turned left by a number under 0. -/
theorem rotl_any (w : World) (x : BitVec 32) (n : Nat) (h0 : 1 ≤ n) (h1 : n ≤ 31) :
    Calls Tryz.prog 170 #[.int .u32 (wi x), .int .i64 (-(n : Int))] w fun e w' => e = .returned (.int .u32 (wi (rotr x n))) ∧ w' = w := by
  obtain ⟨m, hm, hm0, hm1⟩ : ∃ m : Nat, m = 32 - n ∧ 1 ≤ m ∧ m ≤ 31 := ⟨32 - n, rfl, by omega, by omega⟩
  have hs : bits .and .u64 (IntKind.u64.wrap (-(n : Int))) 31 = (m : Int) := by
    have h : IntKind.u64.wrap (-(n : Int)) = 18446744073709551616 - (n : Int) := by rw [IntKind.wrap_u64]; omega
    rw [h, and31 _ (by omega) (by omega)]
    omega
  have hd : (32 : Int) - m = n := by omega
  rw [show rotr x n = (x <<< m) ||| (x >>> n) by rw [hm, rotr, BitVec.or_comm]]
  clear hm
  go_enter Tryz.func170, Tryz.ntmps170
  go_wp2_with fail
  go_ret
  exact ⟨ret_int (by rw [shl_wi, shr_wi, bits_or]), rfl⟩
theorem rotR_any (w : World) (x : BitVec 32) (n : Nat) (h0 : 1 ≤ n) (h1 : n ≤ 31) :
    Calls Tryz.prog 169 #[.int .u32 (wi x), .int .i64 (n : Int)] w fun e w' => e = .returned (.int .u32 (wi (rotr x n))) ∧ w' = w := by
  go_enter Tryz.func169, Tryz.ntmps169
  go_wp2_with fail
  refine (rotl_any _ x n h0 h1).mono ?_
  rintro e w' ⟨rfl, rfl⟩
  go_wp2_with fail
  go_ret
  exact ⟨rfl, rfl⟩
theorem turned_any (w : World) (x : BitVec 32) (i j k : Nat) (hi : 1 ≤ i ∧ i ≤ 31) (hj : 1 ≤ j ∧ j ≤ 31) (hk : 1 ≤ k ∧ k ≤ 31) :
    Calls Tryz.prog 168 #[.int .u32 (wi x), .int .i64 (i : Int), .int .i64 (j : Int), .int .i64 (k : Int)] w fun e w' => e = .returned (.int .u32 (wi (rotr x i ^^^ rotr x j ^^^ rotr x k))) ∧ w' = w := by
  go_enter Tryz.func168, Tryz.ntmps168
  go_wp2_with fail
  refine (rotR_any _ x i hi.1 hi.2).mono ?_
  rintro e w' ⟨rfl, rfl⟩
  go_wp2_with fail
  refine (rotR_any _ x j hj.1 hj.2).mono ?_
  rintro e w' ⟨rfl, rfl⟩
  go_wp2_with fail
  refine (rotR_any _ x k hk.1 hk.2).mono ?_
  rintro e w' ⟨rfl, rfl⟩
  go_wp2_with fail
  go_ret
  exact ⟨ret_int (by rw [bits_xor, bits_xor]), rfl⟩
theorem S1_any (w : World) (x : BitVec 32) :
    Calls Tryz.prog 168 #[.int .u32 (wi x), .int .i64 6, .int .i64 11, .int .i64 25] w fun e w' => e = .returned (.int .u32 (wi (S1 x))) ∧ w' = w :=
  turned_any w x 6 11 25 (by decide) (by decide) (by decide)
theorem S0_any (w : World) (x : BitVec 32) :
    Calls Tryz.prog 168 #[.int .u32 (wi x), .int .i64 2, .int .i64 13, .int .i64 22] w fun e w' => e = .returned (.int .u32 (wi (S0 x))) ∧ w' = w :=
  turned_any w x 2 13 22 (by decide) (by decide) (by decide)
theorem right_7 (w : World) (x : BitVec 32) : Calls Tryz.prog 169 #[.int .u32 (wi x), .int .i64 7] w fun e w' => e = .returned (.int .u32 (wi (rotr x 7))) ∧ w' = w := rotR_any w x 7 (by decide) (by decide)
theorem right_17 (w : World) (x : BitVec 32) : Calls Tryz.prog 169 #[.int .u32 (wi x), .int .i64 17] w fun e w' => e = .returned (.int .u32 (wi (rotr x 17))) ∧ w' = w := rotR_any w x 17 (by decide) (by decide)
theorem right_18 (w : World) (x : BitVec 32) : Calls Tryz.prog 169 #[.int .u32 (wi x), .int .i64 18] w fun e w' => e = .returned (.int .u32 (wi (rotr x 18))) ∧ w' = w := rotR_any w x 18 (by decide) (by decide)
theorem right_19 (w : World) (x : BitVec 32) : Calls Tryz.prog 169 #[.int .u32 (wi x), .int .i64 19] w fun e w' => e = .returned (.int .u32 (wi (rotr x 19))) ∧ w' = w := rotR_any w x 19 (by decide) (by decide)
theorem small0_any (w : World) (x : BitVec 32) : Calls Tryz.prog 167 #[.int .u32 (wi x)] w fun e w' => e = .returned (.int .u32 (wi (s0 x))) ∧ w' = w := by
  go_enter Tryz.func167, Tryz.ntmps167
  go_wp2_with fail
  refine (right_7 _ x).mono ?_
  rintro e w' ⟨rfl, rfl⟩
  go_wp2_with fail
  refine (right_18 _ x).mono ?_
  rintro e w' ⟨rfl, rfl⟩
  go_wp2_with fail
  go_ret
  exact ⟨ret_int (by rw [show (8 : Int) = 2 ^ 3 from rfl, shr_wi, bits_xor, bits_xor]; rfl), rfl⟩
theorem small1_any (w : World) (x : BitVec 32) : Calls Tryz.prog 166 #[.int .u32 (wi x)] w fun e w' => e = .returned (.int .u32 (wi (s1 x))) ∧ w' = w := by
  go_enter Tryz.func166, Tryz.ntmps166
  go_wp2_with fail
  refine (right_17 _ x).mono ?_
  rintro e w' ⟨rfl, rfl⟩
  go_wp2_with fail
  refine (right_19 _ x).mono ?_
  rintro e w' ⟨rfl, rfl⟩
  go_wp2_with fail
  go_ret
  exact ⟨ret_int (by rw [show (1024 : Int) = 2 ^ 10 from rfl, shr_wi, bits_xor, bits_xor]; rfl), rfl⟩
theorem turn_any (w : World) (x : BitVec 32) (n : Nat) (h0 : 1 ≤ n) (h1 : n ≤ 31) :
    Calls Tryz.prog 152 #[.int .u32 (wi x), .int .i64 (n : Int)] w fun e w' => e = .returned (.int .u32 (wi (rotr x n))) ∧ w' = w := by
  obtain ⟨m, hm, hm0, hm1⟩ : ∃ m : Nat, m = 32 - n ∧ 1 ≤ m ∧ m ≤ 31 := ⟨32 - n, rfl, by omega, by omega⟩
  have hd : (32 : Int) - n = m := by omega
  rw [show rotr x n = (x >>> n) ||| (x <<< m) by rw [hm, rotr]]
  clear hm
  go_enter Tryz.func152, Tryz.ntmps152
  go_wp2_with fail
  go_ret
  exact ⟨ret_int (by rw [shl_wi, shr_wi, bits_or]), rfl⟩

end Go.Proofs.YtgjepofinpmcpaaGreatDoor
end

section
namespace Go.Proofs.YtgjepofinpmcpaaGreatDoor
open Go.RowKit Oct Sha

variable {P : Program}

/-- 'clear(s)', s in a row of bytes. -/
theorem run_clear (w : World) (T ty elem : TypeId) (i : TypeInfo) (hu : P.underlying T = some (.slice elem)) (hi : P.info? elem = some i) (hz : i.zero = some (.int .u8 0))
    (dp : Option Addr) (n cap g off : Nat) (cur : List Value) (t : TypeId) (hg : Row w g t cur) (hpos : 0 < n → dp = some ⟨g, off, none⟩) (hfit : off + n ≤ cur.length) :
    ∃ w', (Builtin.clear_ #[T] ty #[.slice dp n cap]).run P w = .ok (.tuple #[]) w' ∧ Row w' g t (splice cur off (bc (List.replicate n 0))) ∧ w.grownBy w' (some g) := by
  by_cases h0 : n = 0
  · subst h0
    refine ⟨w, ?_, by simpa [splice, bc] using hg, grown_refl _ _⟩
    cases dp <;> simp [Builtin.clear_, run_underlying hu]
  · obtain rfl := hpos (by omega)
    have hzc : (Builtin.zeroCells #[Value.int .u8 0] n).toList = bc (List.replicate n 0) := by
      apply List.ext_getElem
      · simp [Builtin.zeroCells, bc]
      · intro k h1 h2
        simp [Builtin.zeroCells, bc, Nat.mod_one]
    have hst := run_storeCells_at P g off t (bc (List.replicate n 0)) 0 cur.toArray w hg (by simp [bc]; omega) (bc_one _)
    refine ⟨_, ?_, hg.setRow _, grown_setRow _ _ _⟩
    obtain ⟨m, rfl⟩ : ∃ m, n = m + 1 := ⟨n - 1, by omega⟩
    simp [Builtin.clear_, run_underlying hu, zeroValue, typeInfo, hi, hz, Value.cells, hzc, hst, splice]
theorem wl_clear {ops : Array Oper} {rest : List Oper} {o : Oper} {a : Act} {w : World} {Q : Exit → Act → World → Prop} (hgd : o.guard = none) (s : Operand) (T : TypeId)
    (ho : o.op = .call { callee := .builtin .clear, args := #[s], argTypes := #[T] }) (elem : TypeId) (i : TypeInfo) (hu : P.underlying T = some (.slice elem)) (hi : P.info? elem = some i) (hz : i.zero = some (.int .u8 0))
    (dp : Option Addr) (n cap g off : Nat) (hs : a.eval s = .slice dp n cap) (cur : List Value) (t : TypeId) (hg : Row w g t cur) (hpos : 0 < n → dp = some ⟨g, off, none⟩) (hfit : off + n ≤ cur.length)
    (k : ∀ w', Hid (Row w' g t (splice cur off (bc (List.replicate n 0)))) → w.grownBy w' (some g) → wpList P ops Q rest (a.put o.dst (.tuple #[])) w') : wpList P ops Q (o :: rest) a w :=
  wpList_plain hgd fun _ hK => by
    obtain ⟨w', hrun, h2, h3⟩ := run_clear (P := P) w T o.type elem i hu hi hz dp n cap g off cur t hg hpos hfit
    unfold Oper.wp
    simp [execOp, ho, resolve, invoke, builtin, hs, hrun, Result.andThen]
    exact hK _ _ (k w' h2 h3)
theorem wv_one (ws : List (BitVec 32)) : ∀ u ∈ ws.map wv, u.oneCell' = true := by
  intro u hu
  obtain ⟨x, _, rfl⟩ := List.mem_map.1 hu
  rfl
end Go.Proofs.YtgjepofinpmcpaaGreatDoor
end

section
namespace Go.Proofs.YtgjepofinpmcpaaGreatDoor
open Go.RowKit Oct Sha

theorem Tryz.info34 : (Tryz.prog.info? 183).map (·.size) = some 1 := by kernel_rfl

set_option maxHeartbeats 1000000 in
theorem step_any (w : World) (b : Nat) (t : TypeId) (s : St) (tl : List Value) (i : BitVec 32) (hr : Row w b t (s.vs ++ tl)) :
    Calls Tryz.prog 161 #[.pointer (some ⟨b, 0, none⟩), .int .u32 (wi i)] w fun e w' => e = .returned (.tuple #[]) ∧ Row w' b t ((rstep s i).vs ++ tl) ∧ w.grownBy w' (some b) := by
  obtain ⟨xa, xb, xc, xd, xe, xf, xg, xh⟩ := s
  have c0 : w.cell? ⟨b, 0, none⟩ = some (.int .u32 (wi xa)) := hr.cell rfl
  have c1 : w.cell? ⟨b, 1, none⟩ = some (.int .u32 (wi xb)) := hr.cell rfl
  have c2 : w.cell? ⟨b, 2, none⟩ = some (.int .u32 (wi xc)) := hr.cell rfl
  have c3 : w.cell? ⟨b, 3, none⟩ = some (.int .u32 (wi xd)) := hr.cell rfl
  have c4 : w.cell? ⟨b, 4, none⟩ = some (.int .u32 (wi xe)) := hr.cell rfl
  have c5 : w.cell? ⟨b, 5, none⟩ = some (.int .u32 (wi xf)) := hr.cell rfl
  have c6 : w.cell? ⟨b, 6, none⟩ = some (.int .u32 (wi xg)) := hr.cell rfl
  have c7 : w.cell? ⟨b, 7, none⟩ = some (.int .u32 (wi xh)) := hr.cell rfl
  go_enter Tryz.func161, Tryz.ntmps161
  go_wp2_with fail
  go_quiet (fail)
  go_wp2_with fail
  go_quiet (fail)
  go_wp2_with fail
  go_quiet ((go_at_call 168; exact quiet_as (S1_any _ xe) rfl))
  go_wp2_with fail
  refine (S0_any _ xa).mono ?_
  rintro e w1 ⟨rfl, rfl⟩
  go_wp2_with fail
  go_region_held3 (fun _ => True) (trivial)
    ((refine step_copy_to (by rfl) _ _ _ _ (by rfl) 183 Tryz.underlying218 Tryz.info34 (some ⟨b, 1, none⟩) (some ⟨b, 0, none⟩) 7 7 7 8 (by rfl) (by rfl) b 1 _ t hr [wv xa, wv xb, wv xc, wv xd, wv xe, wv xf, wv xg] (by rfl) (fun _ => ⟨rfl, _, rfl, hr.src 0 7⟩) (by simp [St.vs, St.ws]) (wv_one [xa, xb, xc, xd, xe, xf, xg]) 7 rfl ?_; intro w2 hr2 hg2))
  have hg : w.grownBy w2 (some b) := grown_drewN (grown_drew hg2)
  have hR : Row w2 b t ([wv xa, wv xa, wv xb, wv xc, wv xd, wv xe, wv xf, wv xg] ++ tl) := hr2
  clear hg2 hr2 c0 c1 c2 c3 c4 c5 c6 c7 hr
  have c4 : w2.cell? ⟨b, 4, none⟩ = some (.int .u32 (wi xd)) := hR.cell rfl
  have c0 : w2.cell? ⟨b, 0, none⟩ = some (.int .u32 (wi xa)) := hR.cell rfl
  have f4 := hR.frozen 4
  have f0 := hR.frozen 0
  go_wp2_with fail
  go_region
  go_wp2_with fail
  go_end0
  refine ⟨rfl, ?_, ?_⟩
  · have h := ((hR.set 4 (wv (xd + (xh + S1 xe + ch xe xf xg + i)))).set 0 (wv (xh + S1 xe + ch xe xf xg + i + (S0 xa + maj xa xb xc)))).drew
    simp only [bits_not, bits_and, bits_or, mod_wi, ofInt_sum, ofInt_wi]
    exact h
  · exact grown_to_drew (grown_trans (grown_trans hg (grown_set _ _ _ _) (.inl rfl)) (grown_set _ _ _ _) (.inl rfl))
end Go.Proofs.YtgjepofinpmcpaaGreatDoor
end

section
namespace Go.Proofs.YtgjepofinpmcpaaGreatDoor
open Go.RowKit Oct Sha

/-- A row of bytes that can be read, from a place on. -/
def Bts (w : World) (b o : Nat) (p : List Int) : Prop := ∀ j, j < p.length → w.cell? ⟨b, o + j, none⟩ = some (.int .u8 (p.getD j 0))
theorem Bts.below {w w' : World} {b o : Nat} {p : List Int} (h : Bts w b o p) (hlt : b < w.heap.size) (hb : Below w.heap.size w w') : Bts w' b o p := fun j hj => (hb.cell (p := ⟨b, o + j, none⟩) hlt).trans (h j hj)

theorem byt_at {p : List Int} (h : Byt p) (j : Nat) : 0 ≤ p.getD j 0 ∧ p.getD j 0 ≤ 255 := by
  by_cases hj : j < p.length
  · have : p.getD j 0 ∈ p := by simp [List.getD, List.getElem?_eq_getElem hj]
    exact h _ this
  · simp [List.getD, List.getElem?_eq_none (Nat.le_of_not_lt hj)]

def wz (n : Nat) : List Value := List.replicate n (wv 0)

theorem wz_at (p : List Int) (k : Nat) (hk : k < 64) : ((sch p k).map wv ++ wz (64 - k))[k]? = some (.int .u32 0) := by
  rw [List.getElem?_append_right (by simp [sch_len]), List.length_map, sch_len, Nat.sub_self]
  simp only [wz, List.getElem?_replicate]
  rw [if_pos (by omega)]
  rfl
theorem sch_set (p : List Int) (k : Nat) (hk : k < 64) : ((sch p k).map wv ++ wz (64 - k)).set k (wv (nxt p (sch p k))) = (sch p (k + 1)).map wv ++ wz (64 - (k + 1)) := by
  rw [List.set_append_right _ _ (by simp [sch_len]), List.length_map, sch_len, Nat.sub_self, sch, List.map_append, List.append_assoc]
  congr 1
  rw [show 64 - k = (64 - (k + 1)) + 1 by omega, wz, List.replicate_succ]
  rfl
theorem or4 (x0 x1 x2 x3 : Int) (y0 : 0 ≤ x0 ∧ x0 ≤ 255) (y1 : 0 ≤ x1 ∧ x1 ≤ 255) (y2 : 0 ≤ x2 ∧ x2 ≤ 255) (y3 : 0 ≤ x3 ∧ x3 ≤ 255) :
    bits .or .u32 (bits .or .u32 (bits .or .u32 (x0 * 16777216) (x1 * 65536)) (x2 * 256)) x3 = wi (BitVec.ofInt 32 (((x0 * 256 + x1) * 256 + x2) * 256 + x3)) := by
  have hk : ∀ n : Int, 0 ≤ n → n < 2 ^ 32 → IntKind.u32.wrap n = n := fun n h0 h1 => by rw [IntKind.wrap_u32]; omega
  rw [bits_join .u32 32 (by decide) hk 24 (x0 * 16777216) (x1 * 65536) (by omega) (by omega) (by omega) (by omega) (by omega) (by omega)]
  rw [bits_join .u32 32 (by decide) hk 16 (x0 * 16777216 + x1 * 65536) (x2 * 256) (by omega) (by omega) (by omega) (by omega) (by omega) (by omega)]
  rw [bits_join .u32 32 (by decide) hk 8 (x0 * 16777216 + x1 * 65536 + x2 * 256) x3 (by omega) (by omega) (by omega) (by omega) (by omega) (by omega)]
  rw [wi_ofInt _ (by omega) (by omega)]
  omega
theorem sch_at (p : List Int) (k j : Nat) (hj : j < k) : ((sch p k).map wv ++ wz (64 - k))[j]? = some (.int .u32 (wi ((sch p k).getD j 0))) := by
  have h : j < (sch p k).length := by rw [sch_len]; exact hj
  rw [List.getElem?_append_left (by simpa using h)]
  simp [List.getD, List.getElem?_eq_getElem h, wv]
theorem nxt_lo (p : List Int) (k : Nat) (hk : k < 16) : nxt p (sch p k) = wrd p k := by
  unfold nxt
  rw [sch_len, if_pos hk]
theorem nxt_hi (p : List Int) (k : Nat) (hk : 16 ≤ k) : nxt p (sch p k) = s1 ((sch p k).getD (k - 2) 0) + (sch p k).getD (k - 7) 0 + s0 ((sch p k).getD (k - 15) 0) + (sch p k).getD (k - 16) 0 := by
  unfold nxt
  rw [sch_len, if_neg (by omega)]
theorem below_set {B : Nat} {w wr : World} (h : Below B w wr) (hB : B ≤ w.heap.size) {b : Nat} (hb : B ≤ b) (j : Nat) (v : Value) : Below B w (wr.setCell ⟨b, j, none⟩ v) :=
  h.trans (grown_below (grown_set wr b j v) (Nat.le_trans hB h.size) (fun k hk => by cases hk; exact hb))
theorem below_setR {B : Nat} {w wr : World} (h : Below B w wr) (hB : B ≤ w.heap.size) {b : Nat} (hb : B ≤ b) (cs : Array Value) : Below B w (wr.setRow b cs) :=
  h.trans (grown_below (grown_setRow wr b cs) (Nat.le_trans hB h.size) (fun k hk => by cases hk; exact hb))
theorem Tryz.und45 : Tryz.prog.underlying 201 = some (.array 64 183) := by kernel_rfl
theorem Tryz.siz45 : (Tryz.prog.info? 201).map (·.size) = some 64 := by kernel_rfl
theorem run_ix (b i : Nat) (hi : i < 64) (u : World) : (Instr.indexAt 201 (.pointer (some ⟨b, 0, none⟩)) (.int .i64 (i : Int))).run Tryz.prog u = .ok (.pointer (some ⟨b, i, none⟩)) u := by
  have ht : Tryz.prog.underlying 201 = some (.array (Tryz.prog.arrayLen 201) (Tryz.prog.elem 201)) := by kernel_rfl
  have hn : Tryz.prog.arrayLen 201 = 64 := by kernel_rfl
  have hs : (sizeOf (Tryz.prog.elem 201)).run Tryz.prog u = .ok 1 u := by
    rw [show Tryz.prog.elem 201 = 183 by kernel_rfl]
    cases hq : Tryz.prog.info? 183 with
    | none => have := Tryz.info34; simp [hq] at this
    | some i0 =>
      have h1 := Tryz.info34
      simp only [hq, Option.map_some, Option.some.injEq] at h1
      simp [sizeOf, typeInfo, hq, h1]
  rw [run_indexAt_array u 201 _ .i64 i ht, hn, if_pos (by omega), hs]
  simp only [Result.andThen, Addr.add_mid]
  simp
theorem run_sl (b o l h : Nat) (hlh : l ≤ h) (hh : h ≤ 64) (hl : l < 64) (u : World) :
    (Instr.sliceAt 187 (.pointer (some ⟨b, o, none⟩)) (some (.int .i64 (l : Int))) (some (.int .i64 (h : Int))) none).run Tryz.prog u = .ok (.slice (some ⟨b, o + l, none⟩) (h - l) (64 - l)) u := by
  have ht : Tryz.prog.underlying 187 = some (.array (Tryz.prog.arrayLen 187) (Tryz.prog.elem 187)) := by kernel_rfl
  have hn : Tryz.prog.arrayLen 187 = 64 := by kernel_rfl
  have hs : (sizeOf (Tryz.prog.elem 187)).run Tryz.prog u = .ok 1 u := by
    rw [show Tryz.prog.elem 187 = 5 by kernel_rfl]
    obtain ⟨i0, hi, hz0, hz1, hz2⟩ := info_parts Tryz.info5
    simp [sizeOf, typeInfo, hi, hz1]
  rw [run_sliceAt_array_lh u 187 _ ht .i64 .i64 l h (by omega) (by omega) (by rw [hn]; omega), hs, hn]
  simp only [Result.andThen, slicedAt]
  rw [if_neg (by omega), Addr.add_mid]
  simp
theorem run_sl_l (b o l : Nat) (hl : l < 64) (u : World) :
    (Instr.sliceAt 187 (.pointer (some ⟨b, o, none⟩)) (some (.int .i64 (l : Int))) none none).run Tryz.prog u = .ok (.slice (some ⟨b, o + l, none⟩) (64 - l) (64 - l)) u := by
  have ht : Tryz.prog.underlying 187 = some (.array (Tryz.prog.arrayLen 187) (Tryz.prog.elem 187)) := by kernel_rfl
  have hn : Tryz.prog.arrayLen 187 = 64 := by kernel_rfl
  have hs : (sizeOf (Tryz.prog.elem 187)).run Tryz.prog u = .ok 1 u := by
    rw [show Tryz.prog.elem 187 = 5 by kernel_rfl]
    obtain ⟨i0, hi, hz0, hz1, hz2⟩ := info_parts Tryz.info5
    simp [sizeOf, typeInfo, hi, hz1]
  rw [run_sliceAt_array_l u 187 _ ht .i64 l (by omega) (by rw [hn]; omega), hs, hn]
  simp only [Result.andThen, slicedAt]
  rw [if_neg (by omega), Addr.add_mid]
  simp

set_option maxHeartbeats 1000000 in
theorem spread_any (w : World) (b o : Nat) (p : List Int) (hp : p.length = 64) (hb : Byt p) (hr : Bts w b o p) (hlt : b < w.heap.size) :
    Calls Tryz.prog 160 #[.pointer (some ⟨b, o, none⟩)] w fun e w' => e = .returned (.agg ((sch p 64).map wv).toArray) ∧ Below w.heap.size w w' := by
  obtain ⟨X, hX⟩ : ∃ X, X = (sch p 64).map wv := ⟨_, rfl⟩
  rw [← hX]
  have HX := (show Hid (X = (sch p 64).map wv) from hX)
  clear hX
  go_enter Tryz.func160, Tryz.ntmps160
  go_wp2_with fail
  go_loopw [7] (fun i wr => ∃ k : Nat, k ≤ 16 ∧ i = .int .i64 k ∧ Row wr (w.heap.size + 1) 201 ((sch p k).map wv ++ wz (64 - k)) ∧ Row wr w.heap.size 201 (wz 64) ∧ Below w.heap.size w wr) (fun i _ => 16 - (intOf i).toNat)
  case atStart => exact ⟨0, by omega, rfl, heap_alloc2_new w _ _, heap_alloc2_old w _ _, (below_alloc w _).trans ((Below.refl _ _).alloc (by simp) _)⟩
  case round =>
    obtain ⟨k, hk, rfl, hR, hZ, hbel⟩ := hrel
    have hrr := hr.below hlt hbel
    by_cases hk16 : k < 16
    · obtain ⟨x0, hx0⟩ : ∃ x, x = p.getD (4 * k) 0 := ⟨_, rfl⟩
      obtain ⟨x1, hx1⟩ : ∃ x, x = p.getD (4 * k + 1) 0 := ⟨_, rfl⟩
      obtain ⟨x2, hx2⟩ : ∃ x, x = p.getD (4 * k + 2) 0 := ⟨_, rfl⟩
      obtain ⟨x3, hx3⟩ : ∃ x, x = p.getD (4 * k + 3) 0 := ⟨_, rfl⟩
      have y0 : 0 ≤ x0 ∧ x0 ≤ 255 := hx0 ▸ byt_at hb _
      have y1 : 0 ≤ x1 ∧ x1 ≤ 255 := hx1 ▸ byt_at hb _
      have y2 : 0 ≤ x2 ∧ x2 ≤ 255 := hx2 ▸ byt_at hb _
      have y3 : 0 ≤ x3 ∧ x3 ≤ 255 := hx3 ▸ byt_at hb _
      have c0 : wr.cell? ⟨b, o + 4 * k, none⟩ = some (.int .u8 x0) := hx0 ▸ hrr (4 * k) (by omega)
      have c1 : wr.cell? ⟨b, o + 4 * k + 1, none⟩ = some (.int .u8 x1) := hx1 ▸ hrr (4 * k + 1) (by omega)
      have c2 : wr.cell? ⟨b, o + 4 * k + 2, none⟩ = some (.int .u8 x2) := hx2 ▸ hrr (4 * k + 2) (by omega)
      have c3 : wr.cell? ⟨b, o + 4 * k + 3, none⟩ = some (.int .u8 x3) := hx3 ▸ hrr (4 * k + 3) (by omega)
      have HW := (show Hid (wrd p k = BitVec.ofInt 32 (((x0 * 256 + x1) * 256 + x2) * 256 + x3)) by rw [hx0, hx1, hx2, hx3]; rfl)
      clear hx0 hx1 hx2 hx3 hrr
      have hsl : ∀ u : World, (Instr.sliceAt 187 (.pointer (some ⟨b, o, none⟩)) (some (.int .i64 (4 * (k : Int)))) (some (.int .i64 (4 * (k : Int) + 4))) none).run Tryz.prog u = .ok (.slice (some ⟨b, o + 4 * k, none⟩) 4 (64 - 4 * k)) u := by
        intro u
        have := run_sl b o (4 * k) (4 * k + 4) (by omega) (by omega) (by omega) u
        rwa [show 4 * k + 4 - 4 * k = 4 by omega] at this
      have ck : wr.cell? ⟨w.heap.size + 1, k, none⟩ = some (.int .u32 0) := hR.cell (by exact wz_at p k (by omega))
      have fk := hR.frozen k
      go_wp2_with fail
      go_region
      go_wp2_with fail
      go_roundw
      case rel =>
        rw [or4 x0 x1 x2 x3 y0 y1 y2 y3, ← HW.out, ← nxt_lo p k hk16]
        exact ⟨k + 1, by omega, by go_num, sch_set p k (by omega) ▸ (hR.set k _).drew, (hZ.grown (grown_set _ _ _ _) (by simp)).drew, (below_set hbel (Nat.le_refl _) (Nat.le_succ _) _ _).drew⟩
      case measure => simp [intOf]; omega
    · have hR16 : Row wr (w.heap.size + 1) 201 ((sch p 16).map wv ++ wz (64 - 16)) := (show k = 16 by omega) ▸ hR
      clear hr hlt hb hp hR hrr
      go_wp2_with fail
      go_loopw [6] (fun i wr => ∃ k : Nat, 16 ≤ k ∧ k ≤ 64 ∧ i = .int .i64 k ∧ Row wr (w.heap.size + 1) 201 ((sch p k).map wv ++ wz (64 - k)) ∧ Row wr w.heap.size 201 (wz 64) ∧ Below w.heap.size w wr) (fun i _ => 64 - (intOf i).toNat)
      case atStart => exact ⟨16, by omega, by omega, rfl, hR16, hZ, hbel⟩
      case round =>
        clear hR16 hZ hbel
        rename Nat => k0
        obtain ⟨k, hk, hk', rfl, hR, hZ, hbel⟩ := hrel
        by_cases hk64 : k < 64
        · obtain ⟨m2, hm2⟩ : ∃ m : Nat, (k : Int) - 2 = m := ⟨k - 2, by omega⟩
          obtain ⟨m7, hm7⟩ : ∃ m : Nat, (k : Int) - 7 = m := ⟨k - 7, by omega⟩
          obtain ⟨m15, hm15⟩ : ∃ m : Nat, (k : Int) - 15 = m := ⟨k - 15, by omega⟩
          obtain ⟨m16, hm16⟩ : ∃ m : Nat, (k : Int) - 16 = m := ⟨k - 16, by omega⟩
          obtain ⟨y2, hy2⟩ : ∃ y, y = (sch p k).getD (k - 2) 0 := ⟨_, rfl⟩
          obtain ⟨y7, hy7⟩ : ∃ y, y = (sch p k).getD (k - 7) 0 := ⟨_, rfl⟩
          obtain ⟨y15, hy15⟩ : ∃ y, y = (sch p k).getD (k - 15) 0 := ⟨_, rfl⟩
          obtain ⟨y16, hy16⟩ : ∃ y, y = (sch p k).getD (k - 16) 0 := ⟨_, rfl⟩
          have c2 : wr.cell? ⟨w.heap.size + 1, m2, none⟩ = some (.int .u32 (wi y2)) := by rw [hy2, show k - 2 = m2 by omega]; exact hR.cell (sch_at p k m2 (by omega))
          have c7 : wr.cell? ⟨w.heap.size + 1, m7, none⟩ = some (.int .u32 (wi y7)) := by rw [hy7, show k - 7 = m7 by omega]; exact hR.cell (sch_at p k m7 (by omega))
          have c15 : wr.cell? ⟨w.heap.size + 1, m15, none⟩ = some (.int .u32 (wi y15)) := by rw [hy15, show k - 15 = m15 by omega]; exact hR.cell (sch_at p k m15 (by omega))
          have c16 : wr.cell? ⟨w.heap.size + 1, m16, none⟩ = some (.int .u32 (wi y16)) := by rw [hy16, show k - 16 = m16 by omega]; exact hR.cell (sch_at p k m16 (by omega))
          have HN := (show Hid (nxt p (sch p k) = s1 y2 + y7 + s0 y15 + y16) by rw [hy2, hy7, hy15, hy16]; exact nxt_hi p k hk)
          clear hy2 hy7 hy15 hy16
          have ck : wr.cell? ⟨w.heap.size + 1, k, none⟩ = some (.int .u32 0) := hR.cell (wz_at p k (by omega))
          have fk := hR.frozen k
          have q2 : IntKind.i64.wrap (m2 : Int) = m2 := by rw [IntKind.wrap_i64]; omega
          have i2 : ∀ u : World, (Instr.indexAt 201 (.pointer (some ⟨w.heap.size + 1, 0, none⟩)) (.int .i64 (m2 : Int))).run Tryz.prog u = .ok (.pointer (some ⟨w.heap.size + 1, m2, none⟩)) u := run_ix (w.heap.size + 1) m2 (by omega)
          have q7 : IntKind.i64.wrap (m7 : Int) = m7 := by rw [IntKind.wrap_i64]; omega
          have i7 : ∀ u : World, (Instr.indexAt 201 (.pointer (some ⟨w.heap.size + 1, 0, none⟩)) (.int .i64 (m7 : Int))).run Tryz.prog u = .ok (.pointer (some ⟨w.heap.size + 1, m7, none⟩)) u := run_ix (w.heap.size + 1) m7 (by omega)
          have q15 : IntKind.i64.wrap (m15 : Int) = m15 := by rw [IntKind.wrap_i64]; omega
          have i15 : ∀ u : World, (Instr.indexAt 201 (.pointer (some ⟨w.heap.size + 1, 0, none⟩)) (.int .i64 (m15 : Int))).run Tryz.prog u = .ok (.pointer (some ⟨w.heap.size + 1, m15, none⟩)) u := run_ix (w.heap.size + 1) m15 (by omega)
          have q16 : IntKind.i64.wrap (m16 : Int) = m16 := by rw [IntKind.wrap_i64]; omega
          have i16 : ∀ u : World, (Instr.indexAt 201 (.pointer (some ⟨w.heap.size + 1, 0, none⟩)) (.int .i64 (m16 : Int))).run Tryz.prog u = .ok (.pointer (some ⟨w.heap.size + 1, m16, none⟩)) u := run_ix (w.heap.size + 1) m16 (by omega)
          have z2 : (m2 : Int) < 64 := by omega
          have z7 : (m7 : Int) < 64 := by omega
          have z15 : (m15 : Int) < 64 := by omega
          have z16 : (m16 : Int) < 64 := by omega
          have ik : ∀ u : World, (Instr.indexAt 201 (.pointer (some ⟨w.heap.size + 1, 0, none⟩)) (.int .i64 (k : Int))).run Tryz.prog u = .ok (.pointer (some ⟨w.heap.size + 1, k, none⟩)) u := run_ix (w.heap.size + 1) k (by omega)
          have zk : (k : Int) < 64 := by omega
          have n2 : m2 ≠ k := by omega
          have n7 : m7 ≠ k := by omega
          have n15 : m15 ≠ k := by omega
          have n16 : m16 ≠ k := by omega
          go_wp2_with fail
          have HK := (show Hid (∀ v : Value, (fun w' : World => w'.cell? ⟨w.heap.size + 1, m2, none⟩ = some (.int .u32 (wi y2)) ∧ w'.cell? ⟨w.heap.size + 1, m7, none⟩ = some (.int .u32 (wi y7)) ∧ w'.cell? ⟨w.heap.size + 1, m15, none⟩ = some (.int .u32 (wi y15)) ∧ w'.cell? ⟨w.heap.size + 1, m16, none⟩ = some (.int .u32 (wi y16))) (wr.setCell ⟨w.heap.size + 1, k, none⟩ v).drew) from fun v => ⟨cell_set_ned c2 n2, cell_set_ned c7 n7, cell_set_ned c15 n15, cell_set_ned c16 n16⟩)
          go_region_held3 (fun w' => w'.cell? ⟨w.heap.size + 1, m2, none⟩ = some (.int .u32 (wi y2)) ∧ w'.cell? ⟨w.heap.size + 1, m7, none⟩ = some (.int .u32 (wi y7)) ∧ w'.cell? ⟨w.heap.size + 1, m15, none⟩ = some (.int .u32 (wi y15)) ∧ w'.cell? ⟨w.heap.size + 1, m16, none⟩ = some (.int .u32 (wi y16)))
            (first | exact HK.out _ | go_keep)
            (first
              | (go_at_call 166; refine (small1_any _ y2).mono ?_; rintro e w' ⟨rfl, rfl⟩)
              | (go_at_call 167; refine (small0_any _ y15).mono ?_; rintro e w' ⟨rfl, rfl⟩))
          go_wp2_with fail
          go_roundw
          case rel =>
            rw [add_wi, add_wi, add_wi, ← HN.out]
            exact ⟨k + 1, by omega, by omega, by go_num, sch_set p k (by omega) ▸ (hR.set k _).drew, (hZ.grown (grown_set _ _ _ _) (by simp)).drew, (below_set hbel (Nat.le_refl _) (Nat.le_succ _) _ _).drew⟩
          case measure => simp [intOf]; omega
        · obtain rfl : k = 64 := by omega
          clear hk hk' hk64
          have hl : X.length = 64 := by rw [HX.out, List.length_map, sch_len]
          have hR' : Row wr (w.heap.size + 1) 201 X := by rw [HX.out]; simpa [wz] using hR
          have ho : ∀ v ∈ X, v.oneCell' = true := by rw [HX.out]; exact wv_one _
          clear hR
          have hs : (Tryz.prog.info? 201).map (·.size) = some X.length := by rw [hl]; exact Tryz.siz45
          have hle : (wz 64).length = X.length := by rw [hl]; rfl
          go_wp2_with (first
            | (refine wl_load (by rfl) 201 _ (by rfl) (w.heap.size + 1) (by rfl) _ X hR' _ Tryz.und45 rfl hs ?_)
            | (refine wl_store (by rfl) 201 _ _ (by rfl) w.heap.size X (by rfl) (by rfl) _ (wz 64) hZ hle hs ho ?_; intro w2 hR2 hg2))
          exact bodyPost_ret (v := .agg X.toArray) (results_cell_row rfl _ _ w.heap.size _ X.toArray (0, 0) _ (by rfl) hR2.out Tryz.und45 rfl (by simpa using hs)) rfl ⟨rfl, hbel.trans (grown_below hg2 hbel.size (fun k hk => by cases hk; exact Nat.le_refl _))⟩
end Go.Proofs.YtgjepofinpmcpaaGreatDoor
end
