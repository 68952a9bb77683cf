/- The walks over package kv: Write. -/
import Derived.Test.YtejkkhlblnepeabKq
import Derived.Test.YtejkkhlblnepeabW3
import Derived.Deep.Cut
set_option linter.unusedVariables false
set_option linter.unusedSimpArgs false
namespace Go.Proofs.Ytejkkhlblnepeab
open Go.RowKit Oct Kvl

theorem rdv_lit (w : World) (xs : List Value) (e : TypeId) (h : 0 < xs.length) (hm : xs.length ≤ 1000) : Rdv (w.alloc (.cells xs.toArray e)) (.slice (some ⟨w.heap.size, 0, none⟩) xs.length xs.length) xs := by
  refine ⟨some ⟨w.heap.size, 0, none⟩, xs.length, rfl, Nat.le_refl _, by unfold maxLen; omega, fun e => (by cases e), fun a ha j u hu => ?_⟩
  cases ha
  rw [Addr.add_mid, Nat.zero_add]
  exact (Row.new w e xs).cell hu
def errW (o : POp) : Int := if wok o then 0 else 71
def outW (o : POp) : List Int := if wok o then wrO o else []
theorem outW_byt {o : POp} (h1 : Byt o.2.1) (h2 : Byt o.2.2.1) (h3 : Byt o.2.2.2.1) : Byt (outW o) := by
  unfold outW
  split
  · rename_i h
    have hb : ∀ {t : List Int}, Byt t → t.length ≤ 64 → Byt (enc t.length ++ t) := fun ht hl => (enc_byt _ (by omega) (by omega)).app ht
    obtain ⟨⟨k1, k2⟩, ⟨n1, n2⟩, ha, hb', u1, u2⟩ := id h
    have ha := Nat.le_trans ha (mA_le _)
    have hb' := Nat.le_trans hb' (mB_le _)
    have hl : 0 ≤ lN o.1 := by unfold lN; split <;> omega
    have hm : mN o.1 ≤ 1000 := by unfold mN; split <;> omega
    rw [wrO_eq o h]
    exact (enc_byt _ (by omega) (by omega)).app ((hb h1 (by omega)).app ((hb h2 ha).app ((hb h3 hb').app (enc_byt _ (by omega) (by omega)))))
  · exact Byt.nil

end Go.Proofs.Ytejkkhlblnepeab
