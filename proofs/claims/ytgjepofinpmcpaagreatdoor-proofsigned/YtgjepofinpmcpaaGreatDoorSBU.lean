/- From what came in to what a walk wants: slices of bytes. For whatever program. -/
import Derived.Test.YtgjepofinpmcpaaGreatDoorSBQ
import Derived.Test.YtgjepofinpmcpaaGreatDoorSBO
import Derived.Test.YtgjepofinpmcpaaGreatDoorSAA
import Derived.ProofKit
import Derived.OpenShut
import Derived.ShutString
import Derived.ChangeOld
import Derived.SizedLaws
set_option linter.unusedSimpArgs false
set_option linter.unusedVariables false
namespace Go.Proofs.YtgjepofinpmcpaaGreatDoor
section
open Go.RowKit Oct Kvl
/-- What a signer's signature is. -/
def sgn (k x y s : Int) (r : PReq) (i : Int) : List Int := signL (repL i) (sL ⟨#[118, 111, 116, 101]⟩) [numsL [k, x, y, s], body r]
end
section
open Go.RowKit Oct Sha
theorem shaL_len (l : List Int) : (shaL l).length = 32 := out_len _
theorem signL_len {k : Int} (d : List Int) (ll : List (List Int)) (h0 : 0 ≤ k) (h1 : k ≤ 127) : (signL k d ll).length = 32 := by rw [signL_yes _ _ h0 h1, shaL_len]
theorem verL_same {k : Int} (d : List Int) (ll : List (List Int)) (h0 : 0 ≤ k) (h1 : k ≤ 127) : verL k (signL k d ll) d ll = true := by rw [verL, if_pos ⟨h0, h1⟩, decide_eq_true rfl]
end
section
open Go.ChangeShapes Go.WideShapes Go.ChangeAt Go.RowKit Oct
theorem wf_u8 {n : Int} (h : (Lit.int .u8 n).wf = true) : 0 ≤ n ∧ n ≤ 255 := bounds_u8 h
/-- What a slice of bytes reads as, and its datum. -/
def IsBytes {H : Type} (d : DataW H) (l : List Int) : Prop := (d = .nil ∧ l = []) ∨ ∃ spare, d = .slice (lits .u8 l) spare
theorem open_bytes_at {H : Type} {enc : TypeId × Value → H} {P : Program} {w : World} {base fuel : Nat} {held : Bool} {t e : TypeId} (ht : P.underlying t = some (.slice e)) (he : P.underlying e = some (.int .u8)) (hc : P.cellsOf e = 1)
    {v : Value} {x : DataW H × List MemPlace} (hf : DataW.trod enc P w base (fun _ => true) held fuel t [v] = some x) : ∃ l, Rd w v l ∧ IsBytes x.1 l := by
  rcases open_ints ht he hc hf with ⟨hcs, hx⟩ | ⟨a, len, cap, zs, hcs, _, hl, hm, hz, hx, hcell, hwz⟩
  · simp only [List.cons.injEq, and_true] at hcs
    subst hcs
    subst hx
    exact ⟨[], ⟨Byt.nil, none, 0, rfl, Nat.le_refl _, Nat.zero_le _, fun _ => ⟨rfl, rfl⟩, fun a ha => by cases ha⟩, .inl ⟨rfl, rfl⟩⟩
  · simp only [List.cons.injEq, and_true] at hcs
    subst hcs
    subst hx
    simp only [if_true] at hz
    have hlen : (bc (zs.take len)).length = len := by rw [bc_len, List.length_take]; omega
    refine ⟨zs.take len, ⟨fun y hy => wf_u8 (hwz y (List.mem_of_mem_take hy)), some a, cap, by rw [hlen], by rw [hlen]; exact hl, hm, fun e => (by cases e), fun b hb j u hu => ?_⟩, .inr ⟨_, rfl⟩⟩
    cases hb
    have hj : j < len := by
      rcases Nat.lt_or_ge j len with h | h
      · exact h
      · rw [List.getElem?_eq_none (by omega)] at hu; cases hu
    rw [hcell j (by omega)]
    rw [bc_getD _ _ (by rw [List.length_take]; omega)] at hu
    rw [← hu]
    simp [List.getD, hj]
theorem open_bytes {H : Type} {enc : TypeId × Value → H} {P : Program} {w : World} {base : Nat} {held : Bool} {t e : TypeId} (ht : P.underlying t = some (.slice e)) (he : P.underlying e = some (.int .u8)) (hc : P.cellsOf e = 1)
    {a : Option Addr} {len cap : Nat} {d : DataW H} {p : List MemPlace} (h : DataW.Trod enc P w base (fun _ => true) held t (.slice a len cap) d p) :
    ∃ l, Rd w (.slice a len cap) l ∧ IsBytes d l := by
  obtain ⟨fuel, hf⟩ := h
  have := open_bytes_at ht he hc (v := .slice a len cap) (by simpa [Value.cells] using hf)
  simpa using this
theorem IsBytes.reach {H : Type} {P : Program} {ts : List TypeId} {ds : List (DataW H)} (h : (DataW.weightsEach P ts ds).all (· ≤ reachBytes) = true) {j : Nat} {t e : TypeId} {d : DataW H} {l : List Int} (hd : IsBytes d l)
    (ht : ts[j]? = some t) (hj : ds[j]? = some d) (hu : P.underlying t = some (.slice e)) (hb : P.bytesOf e = 1) : l.length ≤ 140737488351232 := by
  rcases hd with ⟨_, rfl⟩ | ⟨sp, rfl⟩
  · simp
  · have := sized_slice h ht hj hu
    rw [hb] at this
    simp only [lits, List.length_map, reachBytes] at this
    omega
#print axioms open_bytes
end
end Go.Proofs.YtgjepofinpmcpaaGreatDoor
