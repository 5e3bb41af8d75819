"""Skyapart: an air traffic control centre that keeps aircraft apart."""
