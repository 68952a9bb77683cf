/- The walks over package kv: which operations can be written; bytes.Compare. -/
import Derived.Test.YtejkkhlblnepeaaDoorKe
import Derived.Lib.BytesEntry
import Derived.Laws.Externs
set_option linter.unusedVariables false
set_option linter.unusedSimpArgs false
namespace Go.Proofs.YtejkkhlblnepeaaDoor
open Go.RowKit Oct Kvl

theorem u8_lt {x y : Int} (hx : 0 ≤ x ∧ x ≤ 255) (hy : 0 ≤ y ∧ y ≤ 255) : (x.toNat.toUInt8 < y.toNat.toUInt8) ↔ x < y := by
  rw [UInt8.lt_iff_toNat_lt]
  simp
  omega
theorem cmp_bytes : ∀ {a b : List Int}, Byt a → Byt b → Lib.compareBytes (Lib.bytesOf a) (Lib.bytesOf b) = cmpL a b
  | [], [], _, _ => rfl
  | [], _ :: _, _, _ => rfl
  | _ :: _, [], _, _ => rfl
  | x :: a, y :: b, ha, hb => by
    have hx := ha x (by simp)
    have hy := hb y (by simp)
    have ih := cmp_bytes (a := a) (b := b) (fun z hz => ha z (by simp [hz])) (fun z hz => hb z (by simp [hz]))
    show (if x.toNat.toUInt8 < y.toNat.toUInt8 then -1 else if y.toNat.toUInt8 < x.toNat.toUInt8 then 1 else Lib.compareBytes (Lib.bytesOf a) (Lib.bytesOf b)) = _
    unfold cmpL
    rw [ih]
    simp only [u8_lt hx hy, u8_lt hy hx]
theorem run_bytesOf {P : Program} {w : World} {v : Value} {l : List Int} (h : Rd w v l) : (Extern.Bytes.bytesOf v).run P w = .ok ⟨(Lib.bytesOf l).toArray⟩ w := by
  obtain ⟨hb, ao, cap, rfl, h1, h2, h3, h4⟩ := h
  cases ao with
  | none =>
    have := (h3 rfl).1
    simp [bc] at this
    subst this
    rfl
  | some a =>
    have := Lib.run_loadBytesX (P := P) w l a .empty (fun j x hj => h4 a rfl j _ (by rw [bc_at, hj]; rfl))
    rw [bc_len]
    show Sem.run P (Extern.Bytes.loadBytes a l.length .empty) w = _
    rw [this]
    congr 1
    apply ByteArray.ext
    show (#[] : Array UInt8) ++ (Lib.bytesOf l).toArray = (Lib.bytesOf l).toArray
    simp
theorem run_cmp {w : World} {u v : Value} {a b : List Int} (ha : Rd w u a) (hb : Rd w v b) : (callFunc 72 #[u, v]).run Tryd.prog w = .ok (.value (.int .i64 (cmpL a b))) w := by
  rw [run_callFunc_extern Tryd.func72 (by kernel_rfl) (by kernel_rfl) (by kernel_rfl) (e := Extern.BytealgCompare.compare) (by kernel_rfl)]
  have h : (Extern.BytealgCompare.compare #[u, v]).run Tryd.prog w = .ok (.int .i64 (cmpL a b)) w := by
    show Sem.run Tryd.prog (do pure (goInt (Extern.BytealgCompare.cmp (← Extern.Bytes.bytesOf u) (← Extern.Bytes.bytesOf v)))) w = _
    simp only [Sem.run_bind, run_bytesOf ha, run_bytesOf hb, Result.andThen, Sem.run_pure, Lib.cmp_eq]
    rw [cmp_bytes ha.1 hb.1]
    rfl
  rw [h]
  rfl
/-- bytes.Compare. -/
theorem compare_any (w : World) (u v : Value) (a b : List Int) (ha : Rd w u a) (hb : Rd w v b) :
    Calls Tryd.prog 57 #[u, v] w fun e w' => e = .returned (.int .i64 (cmpL a b)) ∧ w' = w := by
  have h := run_cmp ha hb
  go_enter Tryd.func57, Tryd.ntmps57
  go_wp2_with (simp only [h])
  go_ret
  exact ⟨rfl, rfl⟩

/-! Which operations can be written. -/
def wB (n a b : Int) : Bool := decide (n < a) || decide (b < n)
def wI (n a b : Int) : Int := if wB n a b = true then 71 else 0
theorem results_tmp4 {fn : Func} {t u v x : Tmp} (h : fn.results = #[.tmp t, .tmp u, .tmp v, .tmp x]) (tmps : Array Value) (P : Program) (w : World) :
    (results fn tmps).run P w = .ok (.tuple #[tmps.getD t undef, tmps.getD u undef, tmps.getD v undef, tmps.getD x undef]) w := by
  simp [results, h]

/-- An operation's five errors. -/
def errsO (o : POp) : List Int := [wI o.1 1 8, wI o.2.1.length 1 16, wI o.2.2.1.length 0 (mA o.1), wI o.2.2.2.1.length 0 (mB o.1), wI o.2.2.2.2 (lN o.1) (mN o.1)]
theorem wI_zero {n a b : Int} : wI n a b = 0 ↔ a ≤ n ∧ n ≤ b := by
  unfold wI wB
  by_cases h1 : n < a
  · simp [h1]; omega
  · by_cases h2 : b < n
    · simp [h2]
    · simp [h1, h2]; omega
theorem errs_wok (o : POp) : errsO o = [0, 0, 0, 0, 0] ↔ wok o := by
  unfold errsO wok
  simp only [List.cons.injEq, wI_zero, and_true, eq_self]
  omega
theorem oneI {l : List Int} : ∀ v ∈ l.map (Value.int .i64), v.oneCell' = true := by
  intro v hv
  obtain ⟨x, _, rfl⟩ := List.mem_map.1 hv
  rfl


end Go.Proofs.YtejkkhlblnepeaaDoor
