/- bytes.Compare. -/
import Derived.Test.YtgjepofinpmcpaaGreatDoorJAJ
import Derived.Test.YtgjepofinpmcpaaGreatDoorJAE
import Derived.Lib.BytesEntry
import Derived.Laws.Externs
section
set_option linter.unusedVariables false
namespace Go.Proofs.YtgjepofinpmcpaaGreatDoor
open Go.RowKit Oct

section
variable {P : Program}
/-- A part of a row is loaded. -/
theorem wl_part {ops : Array Oper} {rest : List Oper} {o : Oper} {a : Act} {w : World} {Q : Exit → Act → World → Prop} (hgd : o.guard = none) (ty : TypeId) (x : Operand) (ho : o.op = .load ty x)
    (b off : Nat) (hx : a.eval x = .pointer (some ⟨b, off, none⟩)) (t : TypeId) (xs : List Value) (h : Row w b t xs) (cs : List Value) (hcs : (xs.drop off).take cs.length = cs) (d : TypeDesc) (hu : P.underlying ty = some d) (hd : d.isRow = true)
    (hi : (P.info? ty).map (·.size) = some cs.length) (k : wpList P ops Q rest (a.put o.dst (.agg cs.toArray)) w) : wpList P ops Q (o :: rest) a w :=
  wpList_load_mid hgd ty x ho b off hx cs d (fun j v hj => by
    have := h.src off cs.length j v (by rw [hcs]; exact hj)
    rw [Addr.add_mid] at this
    exact this) hu hd hi k
end
theorem World.rangeAt.blk {w w' : World} {b o : Nat} {cs : List Value} (h : w.rangeAt b o cs) (e : w'.heap[b]? = w.heap[b]?) : w'.rangeAt b o cs := rangeAt_block h e
theorem one_RVote {G : Nat → Prop} {w : World} {r : List Value} {x : PVote} (h : RVote G w r x) : ∀ v ∈ r, v.oneCell' = true := by
  obtain ⟨s, rfl, h1⟩ := h
  intro v hv
  simp only [List.mem_cons, List.not_mem_nil, or_false] at hv
  rcases hv with rfl | rfl
  · rfl
  · exact h1.one
theorem one_RReq {G : Nat → Prop} {w : World} {r : List Value} {x : PReq} (h : RReq G w r x) : ∀ v ∈ r, v.oneCell' = true := by
  obtain ⟨o, g, rfl, h1, h2⟩ := h
  intro v hv
  simp only [List.mem_cons, List.not_mem_nil, or_false] at hv
  rcases hv with rfl | rfl | rfl | rfl
  · rfl
  · rfl
  · exact h1.one
  · exact h2.one
theorem one_RPrep {G : Nat → Prop} {w : World} {r : List Value} {x : PPrep} (h : RPrep G w r x) : ∀ v ∈ r, v.oneCell' = true := by
  obtain ⟨o, g, c, rfl, h1, h2, h3⟩ := h
  intro v hv
  simp only [List.mem_cons, List.not_mem_nil, or_false] at hv
  rcases hv with rfl | rfl | rfl | rfl | rfl | rfl | rfl | rfl <;> first | rfl | exact h1.one | exact h2.one | exact h3.one
theorem one_RRep {G : Nat → Prop} {w : World} {r : List Value} {x : PRep} (h : RRep G w r x) : ∀ v ∈ r, v.oneCell' = true := by
  obtain ⟨d, s, p, g, rfl, h1, h2, h3, h4⟩ := h
  intro v hv
  simp only [List.mem_cons, List.not_mem_nil, or_false] at hv
  rcases hv with rfl | rfl | rfl | rfl | rfl | rfl | rfl | rfl <;> first | rfl | exact h1.one | exact h2.one | exact h3.one | exact h4.one
end Go.Proofs.YtgjepofinpmcpaaGreatDoor
end

section
set_option linter.unusedVariables false
set_option linter.unusedSimpArgs false
namespace Go.Proofs.YtgjepofinpmcpaaGreatDoor
open Go.RowKit Oct Kvl

theorem u8_lt {x y : Int} (hx : 0 ≤ x ∧ x ≤ 255) (hy : 0 ≤ y ∧ y ≤ 255) : (x.toNat.toUInt8 < y.toNat.toUInt8) ↔ x < y := by
  rw [UInt8.lt_iff_toNat_lt]
  simp
  omega
theorem cmp_bytes : ∀ {a b : List Int}, Byt a → Byt b → Lib.compareBytes (Lib.bytesOf a) (Lib.bytesOf b) = cmpL a b
  | [], [], _, _ => rfl
  | [], _ :: _, _, _ => rfl
  | _ :: _, [], _, _ => rfl
  | x :: a, y :: b, ha, hb => by
    have hx := ha x (by simp)
    have hy := hb y (by simp)
    have ih := cmp_bytes (a := a) (b := b) (fun z hz => ha z (by simp [hz])) (fun z hz => hb z (by simp [hz]))
    show (if x.toNat.toUInt8 < y.toNat.toUInt8 then -1 else if y.toNat.toUInt8 < x.toNat.toUInt8 then 1 else Lib.compareBytes (Lib.bytesOf a) (Lib.bytesOf b)) = _
    unfold cmpL
    rw [ih]
    simp only [u8_lt hx hy, u8_lt hy hx]
theorem run_bytesOf {P : Program} {w : World} {v : Value} {l : List Int} (h : Rd w v l) : (Extern.Bytes.bytesOf v).run P w = .ok ⟨(Lib.bytesOf l).toArray⟩ w := by
  obtain ⟨hb, ao, cap, rfl, h1, h2, h3, h4⟩ := h
  cases ao with
  | none =>
    have := (h3 rfl).1
    simp [bc] at this
    subst this
    rfl
  | some a =>
    have := Lib.run_loadBytesX (P := P) w l a .empty (fun j x hj => h4 a rfl j _ (by rw [bc_at, hj]; rfl))
    rw [bc_len]
    show Sem.run P (Extern.Bytes.loadBytes a l.length .empty) w = _
    rw [this]
    congr 1
    apply ByteArray.ext
    show (#[] : Array UInt8) ++ (Lib.bytesOf l).toArray = (Lib.bytesOf l).toArray
    simp
theorem run_cmp {w : World} {u v : Value} {a b : List Int} (ha : Rd w u a) (hb : Rd w v b) : (callFunc 79 #[u, v]).run Tryz.prog w = .ok (.value (.int .i64 (cmpL a b))) w := by
  rw [run_callFunc_extern Tryz.func79 (by kernel_rfl) (by kernel_rfl) (by kernel_rfl) (e := Extern.BytealgCompare.compare) (by kernel_rfl)]
  have h : (Extern.BytealgCompare.compare #[u, v]).run Tryz.prog w = .ok (.int .i64 (cmpL a b)) w := by
    show Sem.run Tryz.prog (do pure (goInt (Extern.BytealgCompare.cmp (← Extern.Bytes.bytesOf u) (← Extern.Bytes.bytesOf v)))) w = _
    simp only [Sem.run_bind, run_bytesOf ha, run_bytesOf hb, Result.andThen, Sem.run_pure, Lib.cmp_eq]
    rw [cmp_bytes ha.1 hb.1]
    rfl
  rw [h]
  rfl
/-- bytes.Compare. -/
theorem compare_any (w : World) (u v : Value) (a b : List Int) (ha : Rd w u a) (hb : Rd w v b) :
    Calls Tryz.prog 44 #[u, v] w fun e w' => e = .returned (.int .i64 (cmpL a b)) ∧ w' = w := by
  have h := run_cmp ha hb
  go_enter Tryz.func44, Tryz.ntmps44
  go_wp2_with (simp only [h])
  go_ret
  exact ⟨rfl, rfl⟩
end Go.Proofs.YtgjepofinpmcpaaGreatDoor
end
