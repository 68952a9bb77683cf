/- bytes.Clone: its walk. -/
import Derived.Test.YtgjepofinpmcpaaGreatDoorSAT
import Derived.Lib.BytesEntry
import Derived.Laws.Externs
import Derived.Lib.SliceRun
set_option linter.unusedSimpArgs false
set_option linter.unusedVariables false
namespace Go.Proofs.YtgjepofinpmcpaaGreatDoor
section
open Go.RowKit Oct Kvl
theorem u8_lt {x y : Int} (hx : 0 ≤ x ∧ x ≤ 255) (hy : 0 ≤ y ∧ y ≤ 255) : (x.toNat.toUInt8 < y.toNat.toUInt8) ↔ x < y := by
  rw [UInt8.lt_iff_toNat_lt]
  simp
  omega
theorem cmp_bytes : ∀ {a b : List Int}, Byt a → Byt b → Lib.compareBytes (Lib.bytesOf a) (Lib.bytesOf b) = cmpL a b
  | [], [], _, _ => rfl
  | [], _ :: _, _, _ => rfl
  | _ :: _, [], _, _ => rfl
  | x :: a, y :: b, ha, hb => by
    have hx := ha x (by simp)
    have hy := hb y (by simp)
    have ih := cmp_bytes (a := a) (b := b) (fun z hz => ha z (by simp [hz])) (fun z hz => hb z (by simp [hz]))
    show (if x.toNat.toUInt8 < y.toNat.toUInt8 then -1 else if y.toNat.toUInt8 < x.toNat.toUInt8 then 1 else Lib.compareBytes (Lib.bytesOf a) (Lib.bytesOf b)) = _
    unfold cmpL
    rw [ih]
    simp only [u8_lt hx hy, u8_lt hy hx]
theorem run_bytesOf {P : Program} {w : World} {v : Value} {l : List Int} (h : Rd w v l) : (Extern.Bytes.bytesOf v).run P w = .ok ⟨(Lib.bytesOf l).toArray⟩ w := by
  obtain ⟨hb, ao, cap, rfl, h1, h2, h3, h4⟩ := h
  cases ao with
  | none =>
    have := (h3 rfl).1
    simp [bc] at this
    subst this
    rfl
  | some a =>
    have := Lib.run_loadBytesX (P := P) w l a .empty (fun j x hj => h4 a rfl j _ (by rw [bc_at, hj]; rfl))
    rw [bc_len]
    show Sem.run P (Extern.Bytes.loadBytes a l.length .empty) w = _
    rw [this]
    congr 1
    apply ByteArray.ext
    show (#[] : Array UInt8) ++ (Lib.bytesOf l).toArray = (Lib.bytesOf l).toArray
    simp
theorem run_cmp {w : World} {u v : Value} {a b : List Int} (ha : Rd w u a) (hb : Rd w v b) : (callFunc 79 #[u, v]).run Tryz.prog w = .ok (.value (.int .i64 (cmpL a b))) w := by
  rw [run_callFunc_extern Tryz.func79 (by kernel_rfl) (by kernel_rfl) (by kernel_rfl) (e := Extern.BytealgCompare.compare) (by kernel_rfl)]
  have h : (Extern.BytealgCompare.compare #[u, v]).run Tryz.prog w = .ok (.int .i64 (cmpL a b)) w := by
    show Sem.run Tryz.prog (do pure (goInt (Extern.BytealgCompare.cmp (← Extern.Bytes.bytesOf u) (← Extern.Bytes.bytesOf v)))) w = _
    simp only [Sem.run_bind, run_bytesOf ha, run_bytesOf hb, Result.andThen, Sem.run_pure, Lib.cmp_eq]
    rw [cmp_bytes ha.1 hb.1]
    rfl
  rw [h]
  rfl
/-- bytes.Compare. -/
theorem compare_any (w : World) (u v : Value) (a b : List Int) (ha : Rd w u a) (hb : Rd w v b) :
    Calls Tryz.prog 44 #[u, v] w fun e w' => e = .returned (.int .i64 (cmpL a b)) ∧ w' = w := by
  have h := run_cmp ha hb
  go_enter Tryz.func44, Tryz.ntmps44
  go_wp2_with (simp only [h])
  go_ret
  exact ⟨rfl, rfl⟩
end
section
open Go.RowKit Oct
set_option maxRecDepth 10000 in
/-- bytes.Clone. -/
theorem clone_own (w : World) (v : Value) (l : List Int) (h : Rd w v l) (hl : l.length ≤ 140737488355328) :
    Calls Tryz.prog 64 #[v] w fun e w' => ∃ v', e = .returned v' ∧ Own w' 5 v' (bc l) ∧ Fr w.heap.size v' ∧ Below w.heap.size w w' := by
  obtain ⟨ao, ac, rfl, hac⟩ := h.form
  cases ao with
  | none =>
    obtain ⟨rfl, rfl⟩ : l = [] ∧ ac = 0 := by
      obtain ⟨_, ao', cap', e, _, _, h3, _⟩ := h
      injection e with e1 e2 e3
      have := h3 e1.symm
      rw [e3]
      simpa [bc] using this
    have hq : ∀ u : World, (binOp .eql 23 (.slice none 0 0) (.slice none 0 0)).run Tryz.prog u = .ok (.bool true) u := fun u => Lib.run_eql_slice_nil u 23 5 none 0 0 0 0 Tryz.underlying23
    go_enter Tryz.func64, Tryz.ntmps64
    go_wp2_with fail
    go_ret
    exact ⟨_, rfl, Own.nil _ _, Fr.nil _, Below.refl _ _⟩
  | some a =>
    have hq : ∀ u : World, (binOp .eql 23 (.slice (some a) l.length ac) (.slice none 0 0)).run Tryz.prog u = .ok (.bool false) u := fun u => Lib.run_eql_slice_nil u 23 5 (some a) l.length ac 0 0 Tryz.underlying23
    go_enter Tryz.func64, Tryz.ntmps64
    go_wp2_with (at_builtin; refine app_copy rfl _ _ rfl rfl _ l rfl h (by omega) ?_; intro o2 w2 hown2 hfr2 hb2)
    go_ret
    exact ⟨_, rfl, hown2, hfr2, hb2⟩
theorem clone_any (w : World) (v : Value) (l : List Int) (h : Rd w v l) (hl : l.length ≤ 140737488355328) :
    Calls Tryz.prog 64 #[v] w fun e w' => ∃ v', e = .returned v' ∧ RT (From w.heap.size) w' v' l ∧ Below w.heap.size w w' :=
  (clone_own w v l h hl).mono fun e w' ⟨v', h1, h2, h3, h4⟩ => ⟨v', h1, RT.own h2 h.1 h3, h4⟩
end
end Go.Proofs.YtgjepofinpmcpaaGreatDoor
