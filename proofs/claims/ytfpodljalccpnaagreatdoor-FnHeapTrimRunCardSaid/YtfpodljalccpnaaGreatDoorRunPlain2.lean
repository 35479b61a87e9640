/-
  Many operations of a heap, in plain words: how many calls there are, what was said stays, how many were born. Nothing of the translation is used here.
-/
import Derived.Test.YtfpodljalccpnaaGreatDoorStepT

namespace Go.Proofs.YtfpodljalccpnaaGreatDoor
end Go.Proofs.YtfpodljalccpnaaGreatDoor

/-
  Many operations of a heap, in plain words: when it is full, what stays of each call, operations cut anywhere. Nothing of the translation is used here.
-/
namespace Go.Proofs.YtfpodljalccpnaaGreatDoor
end Go.Proofs.YtfpodljalccpnaaGreatDoor
